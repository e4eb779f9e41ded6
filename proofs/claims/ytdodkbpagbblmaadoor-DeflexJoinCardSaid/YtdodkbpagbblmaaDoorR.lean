import Derived.Test.YtdodkbpagbblmaaDoorF
import Derived.Test.YtdodkbpagbblmaaDoorP
import Derived.Test.YtdodkbpagbblmaaDoorG
namespace Go.Proofs.YtdodkbpagbblmaaDoor
open Go Go.RowKit

/-- What the program's variables hold: the table, and the error of a text that is no number. -/
def Glob (w : World) : Prop := TabAt 3 Lib.deBruijn64tab w ∧ ∃ ev, w.cell? ⟨1, 0, none⟩ = some ev ∧ (ev = .nilIface ∨ ∃ te pe, ev = .iface te pe)

theorem Glob.below {w w' : World} {n : Nat} (h : Glob w) (hn : w.heap.size ≤ n) (hB : Below n w w') : Glob w' := by
  obtain ⟨h1, ev, h2, h3⟩ := h
  refine ⟨fun j hj => ?_, ev, ?_, h3⟩
  · have := h1 j hj
    exact (hB.cell (p := ⟨3, j, none⟩) (Nat.lt_of_lt_of_le (lt_of_cell this) hn)).trans this
  · exact (hB.cell (p := ⟨1, 0, none⟩) (Nat.lt_of_lt_of_le (lt_of_cell h2) hn)).trans h2

def numPost (o : Option Nat) (w : World) (e : Ending) (w' : World) : Prop :=
  Below w.heap.size w w' ∧ match o with
    | some n => e = .returned (.tuple #[.int .u64 n, .nilIface])
    | none => ∃ N, e = .returned (.tuple #[.int .u64 0, .iface 106 (.pointer (some ⟨N, 0, none⟩))])

set_option maxRecDepth 100000 in
set_option maxHeartbeats 2000000 in
theorem parseUint_any (t : ByteArray) (h2 : t.size = 2) (w : World) (hG : Glob w) :
    Calls Tryd.prog 74 #[.string t, .int .i64 16, .int .i64 8] w (numPost (hexs 0 t.data.toList) w) := by
  have HG := Lib.hid hG
  clear hG
  have HP := Lib.hid (parseHex_any t h2 w)
  obtain ⟨o, ho⟩ : ∃ o, o = hexs 0 t.data.toList := ⟨_, rfl⟩
  rw [← ho] at HP ⊢
  clear ho
  go_enter Tryd.func74, Tryd.ntmps74
  go_wp2_with fail
  refine HP.out.mono ?_
  rintro e w1 ⟨rfl, hB⟩
  have HB := Lib.hid hB
  cases o with
  | some n =>
    clear hB HP
    unfold hexV
    go_wp2
    go_ret2
    exact ⟨HB.out, rfl⟩
  | none =>
    obtain ⟨ev, e1, e2⟩ := (HG.out.below (Nat.le_refl _) hB).2
    have HT := Lib.hid (Tryd.strconv_toError_syntax ⟨#[80, 97, 114, 115, 101, 85, 105, 110, 116]⟩ t 16 8 ev w1 (by omega) e1 e2)
    clear hB HP e1 e2
    unfold hexV
    go_wp2_with fail
    refine HT.out.mono ?_
    rintro e w2 ⟨N, rfl, hN, _, hB2⟩
    have HB2 := Lib.hid (HB.out.trans (hB2.mono HB.out.size))
    clear hB2
    go_wp2
    go_ret2
    exact ⟨HB2.out, N, rfl⟩

/-- What an escape at a text's beginning says, and how long it is. -/
def escB : List UInt8 → Nat × Nat
  | _ :: b :: r =>
    if b.toNat = 116 then (9, 2) else if b.toNat = 110 then (10, 2) else if b.toNat = 114 then (13, 2) else if signB b.toNat then (b.toNat, 2)
    else if b.toNat = 120 ∧ 2 ≤ r.length then (match hexs 0 (r.take 2) with
      | some n => (n % 256, 4)
      | none => (0, 0))
    else (0, 0)
  | _ => (0, 0)

set_option maxRecDepth 100000 in
set_option maxHeartbeats 4000000 in
theorem readEscape_any (s : ByteArray) (hs : s.size ≤ 140737488351232) (w : World) (hG : Glob w) :
    Calls Tryd.prog 91 #[.string s] w fun e w' => e = .returned (.tuple #[.int .u8 (escB s.data.toList).1, .int .i64 (escB s.data.toList).2]) ∧ Below w.heap.size w w' := by
  have HG := Lib.hid hG
  clear hG
  by_cases h2 : s.size < 2
  · have hE : escB s.data.toList = (0, 0) := by
      have : s.data.toList.length < 2 := by rw [← Lib.size_eq]; exact h2
      generalize s.data.toList = l at this
      match l, this with
      | [], _ => rfl
      | [_], _ => rfl
    rw [hE]
    go_enter Tryd.func91, Tryd.ntmps91
    go_wp2
    go_ret2
    exact ⟨rfl, Below.refl _ _⟩
  · obtain ⟨b, hb⟩ : ∃ b, b = (s[1]'(by omega)).toNat := ⟨_, rfl⟩
    have hb256 : b < 256 := by rw [hb]; exact (s[1]'(by omega)).toNat_lt
    have hi : ∀ h, (s[1]'h).toNat = b := fun h => hb.symm
    have HE : Hid (escB s.data.toList = if b = 116 then (9, 2) else if b = 110 then (10, 2) else if b = 114 then (13, 2) else if signB b then (b, 2)
        else if b = 120 ∧ 4 ≤ s.size then (match hexs 0 (s.extract 2 4).data.toList with
          | some n => (n % 256, 4)
          | none => (0, 0))
        else (0, 0)) := by
      refine Lib.hid ?_
      have hl : ∃ x y r, s.data.toList = x :: y :: r := by
        have : 2 ≤ s.data.toList.length := by rw [← Lib.size_eq]; omega
        match s.data.toList, this with
        | x :: y :: r, _ => exact ⟨x, y, r, rfl⟩
      obtain ⟨x, y, r, hl⟩ := hl
      have hy : b = y.toNat := by
        rw [hb]
        show (s.data[1]'_).toNat = _
        rw [← Array.getElem_toList]
        simp [hl]
      have hr : (s.extract 2 4).data.toList = r.take 2 := by
        rw [ByteArray.data_extract, Array.toList_extract, List.extract_eq_take_drop, hl]
        rfl
      have hz : 4 ≤ s.size ↔ 2 ≤ r.length := by rw [Lib.size_eq, hl]; simp
      rw [hl, hy, hr]
      simp only [escB, hz]
    clear hb
    have HS := fun w' => Lib.hid (isSign_any b hb256 w')
    by_cases c1 : b = 116
    · have hE : escB s.data.toList = (9, 2) := by rw [HE.out, if_pos c1]
      rw [hE]
      subst c1
      go_enter Tryd.func91, Tryd.ntmps91
      go_wp2
      go_ret2
      exact ⟨rfl, Below.refl _ _⟩
    · by_cases c2 : b = 110
      · have hE : escB s.data.toList = (10, 2) := by rw [HE.out, if_neg c1, if_pos c2]
        rw [hE]
        subst c2
        go_enter Tryd.func91, Tryd.ntmps91
        go_wp2
        go_ret2
        exact ⟨rfl, Below.refl _ _⟩
      · by_cases c3 : b = 114
        · have hE : escB s.data.toList = (13, 2) := by rw [HE.out, if_neg c1, if_neg c2, if_pos c3]
          rw [hE]
          subst c3
          go_enter Tryd.func91, Tryd.ntmps91
          go_wp2
          go_ret2
          exact ⟨rfl, Below.refl _ _⟩
        · have d1 : ¬ (b : Int) = 116 := by omega
          have d2 : ¬ (b : Int) = 110 := by omega
          have d3 : ¬ (b : Int) = 114 := by omega
          cases hsg : signB b with
          | true =>
            have hE : escB s.data.toList = (b, 2) := by rw [HE.out, if_neg c1, if_neg c2, if_neg c3, if_pos hsg]
            rw [hE]
            clear HE hE
            go_enter Tryd.func91, Tryd.ntmps91
            go_wp2_with (go_at_call 81; refine (HS _).out.mono ?_; rintro e w' ⟨rfl, rfl⟩)
            go_ret2
            exact ⟨rfl, Below.refl _ _⟩
          | false =>
            by_cases c5 : b = 120 ∧ 4 ≤ s.size
            · obtain ⟨c5, c6⟩ := c5
              have hE : escB s.data.toList = (match hexs 0 (s.extract 2 4).data.toList with
                  | some n => (n % 256, 4)
                  | none => (0, 0)) := by rw [HE.out, if_neg c1, if_neg c2, if_neg c3, hsg, if_neg (by simp), if_pos ⟨c5, c6⟩]
              rw [hE]
              clear HE hE
              have hx2 : (s.extract 2 4).size = 2 := by rw [ByteArray.size_extract]; omega
              have HP := Lib.hid (parseUint_any (s.extract 2 4) hx2 w HG.out)
              obtain ⟨o, ho⟩ : ∃ o, o = hexs 0 (s.extract 2 4).data.toList := ⟨_, rfl⟩
              rw [← ho] at HP ⊢
              clear ho hx2
              subst c5
              go_enter Tryd.func91, Tryd.ntmps91
              go_wp2_with (first | (go_at_call 81; refine (HS _).out.mono ?_; rintro e w' ⟨rfl, rfl⟩) | fail)
              refine HP.out.mono ?_
              rintro e w1 ⟨hB, he⟩
              have HB := Lib.hid hB
              clear hB HP
              cases o with
              | some n =>
                dsimp only at he
                subst he
                go_wp2
                go_ret2
                exact ⟨by simp, HB.out⟩
              | none =>
                dsimp only at he
                obtain ⟨N, rfl⟩ := he
                go_wp2
                go_ret2
                exact ⟨rfl, HB.out⟩
            · have hE : escB s.data.toList = (0, 0) := by rw [HE.out, if_neg c1, if_neg c2, if_neg c3, hsg, if_neg (by simp), if_neg c5]
              rw [hE]
              clear HE hE
              by_cases c6 : b = 120
              · have c7 : ¬ 4 ≤ s.size := fun h => c5 ⟨c6, h⟩
                subst c6
                go_enter Tryd.func91, Tryd.ntmps91
                go_wp2_with (go_at_call 81; refine (HS _).out.mono ?_; rintro e w' ⟨rfl, rfl⟩)
                go_ret2
                exact ⟨rfl, Below.refl _ _⟩
              · have d5 : ¬ (b : Int) = 120 := by omega
                go_enter Tryd.func91, Tryd.ntmps91
                go_wp2_with (go_at_call 81; refine (HS _).out.mono ?_; rintro e w' ⟨rfl, rfl⟩)
                go_ret2
                exact ⟨rfl, Below.refl _ _⟩
end Go.Proofs.YtdodkbpagbblmaaDoor
