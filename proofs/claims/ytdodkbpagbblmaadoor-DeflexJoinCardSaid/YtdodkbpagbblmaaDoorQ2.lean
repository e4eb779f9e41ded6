import Derived.Deep.LoopGhost
import Derived.Test.YtdodkbpagbblmaaDoorQ1
namespace Go.Proofs.YtdodkbpagbblmaaDoor
open Go Go.RowKit

/-- Is a text one name? -/
def nameB : List UInt8 → Bool
  | [] => false
  | c :: r => decide ((c :: r).length ≤ 64) && !digB c.toNat && decide (runL (c :: r) = (c :: r).length)

set_option maxHeartbeats 800000 in
theorem name_any (s : ByteArray) (hs : s.size ≤ 140737488351232) (w : World) : Calls Tryd.prog 18 #[.string s] w fun e w' => e = .returned (.bool (nameB s.data.toList)) ∧ w = w' := by
  have key : ∀ r, nameB s.data.toList = r → (Calls Tryd.prog 18 #[.string s] w fun e w' => e = .returned (.bool r) ∧ w = w') → Calls Tryd.prog 18 #[.string s] w fun e w' => e = .returned (.bool (nameB s.data.toList)) ∧ w = w' := fun r h k => by rw [h]; exact k
  by_cases h0 : s.size = 0
  · refine key false (by rw [(list_empty s).1 h0]; rfl) ?_
    have hem := isEmpty_of s h0
    have hem2 : (!s.toList.isEmpty) = false := by rw [hem]; rfl
    clear key h0
    go_enter Tryd.func18, Tryd.ntmps18
    go_wp2
    go_ret
    simp
  · have hem := isEmpty_not s h0
    have hem2 : (!s.toList.isEmpty) = true := by rw [hem]; rfl
    obtain ⟨b, hb⟩ : ∃ b, b = (s[0]'(by omega)).toNat := ⟨_, rfl⟩
    have hi : ∀ h, (s[0]'h).toNat = b := fun h => hb.symm
    have hE : nameB s.data.toList = (decide (s.size ≤ 64) && !digB b && decide (runL s.data.toList = s.size)) := by
      have h := drop_at s 0 (by omega)
      rw [List.drop_zero] at h
      rw [Lib.size_eq, h, hb]
      rfl
    have HE := Lib.hid hE
    have HD := Lib.hid (isDigit_any b w)
    have HR := Lib.hid (runLength_any s hs w)
    have n0 : (0 : Int) < (s.size : Int) := by omega
    clear hb hE
    by_cases h1 : s.size ≤ 64
    · have d1 : (s.size : Int) ≤ 64 := by omega
      cases hd : digB b with
      | true =>
        refine key false (by rw [HE.out, hd]; simp) ?_
        rw [hd] at HD
        clear key HE hd h0
        go_enter Tryd.func18, Tryd.ntmps18
        go_wp2_with (first | (go_at_call 23; refine HD.out.mono ?_; rintro e w' ⟨rfl, rfl⟩) | (go_at_call 34; refine HR.out.mono ?_; rintro e w' ⟨rfl, rfl⟩))
        go_ret
        simp
      | false =>
        rw [hd] at HD
        obtain ⟨q, hq⟩ : ∃ q, q = runL s.data.toList := ⟨_, rfl⟩
        rw [← hq] at HR HE
        by_cases h2 : q = s.size
        · refine key true (by rw [HE.out, hd]; simp [h1, h2]) ?_
          have d2 : ((q : Int) == (s.size : Int)) = true := by rw [beq_iff_eq]; omega
          clear key HE hd h0 hq h2
          go_enter Tryd.func18, Tryd.ntmps18
          go_wp2_with (first | (go_at_call 23; refine HD.out.mono ?_; rintro e w' ⟨rfl, rfl⟩) | (go_at_call 34; refine HR.out.mono ?_; rintro e w' ⟨rfl, rfl⟩))
          go_ret
          simp
        · refine key false (by rw [HE.out, hd]; simp [h1, h2]) ?_
          have d2 : ((q : Int) == (s.size : Int)) = false := by rw [beq_eq_false_iff_ne]; omega
          clear key HE hd h0 hq h2
          go_enter Tryd.func18, Tryd.ntmps18
          go_wp2_with (first | (go_at_call 23; refine HD.out.mono ?_; rintro e w' ⟨rfl, rfl⟩) | (go_at_call 34; refine HR.out.mono ?_; rintro e w' ⟨rfl, rfl⟩))
          go_ret
          simp
    · have d1 : ¬ (s.size : Int) ≤ 64 := by omega
      refine key false (by rw [HE.out]; simp [h1]) ?_
      clear key HE h0
      go_enter Tryd.func18, Tryd.ntmps18
      go_wp2_with (first | (go_at_call 23; refine HD.out.mono ?_; rintro e w' ⟨rfl, rfl⟩) | (go_at_call 34; refine HR.out.mono ?_; rintro e w' ⟨rfl, rfl⟩))
      go_ret
      simp

/-- What an escape at a text's beginning says, and how long it is. -/
def escD : List UInt8 → Nat × Nat
  | _ :: b :: r =>
    if b.toNat = 110 then (10, 2) else if b.toNat = 116 then (9, 2) else if b.toNat = 114 then (13, 2) else if b.toNat = 34 ∨ b.toNat = 92 then (b.toNat, 2)
    else if b.toNat = 120 ∧ 2 ≤ r.length then (match hexs 0 (r.take 2) with
      | some n => (n % 256, 4)
      | none => (0, 0))
    else (0, 0)
  | _ => (0, 0)

set_option maxRecDepth 100000 in
set_option maxHeartbeats 4000000 in
theorem rdEscape_any (s : ByteArray) (hs : s.size ≤ 140737488351232) (w : World) (hG : Glob w) :
    Calls Tryd.prog 57 #[.string s] w fun e w' => e = .returned (.tuple #[.int .u8 (escD s.data.toList).1, .int .i64 (escD s.data.toList).2]) ∧ Below w.heap.size w w' := by
  have HG := Lib.hid hG
  clear hG
  by_cases h2 : s.size < 2
  · have hE : escD s.data.toList = (0, 0) := by
      have : s.data.toList.length < 2 := by rw [← Lib.size_eq]; exact h2
      generalize s.data.toList = l at this
      match l, this with
      | [], _ => rfl
      | [_], _ => rfl
    rw [hE]
    go_enter Tryd.func57, Tryd.ntmps57
    go_wp2
    go_ret2
    exact ⟨rfl, Below.refl _ _⟩
  · obtain ⟨b, hb⟩ : ∃ b, b = (s[1]'(by omega)).toNat := ⟨_, rfl⟩
    have hb256 : b < 256 := by rw [hb]; exact (s[1]'(by omega)).toNat_lt
    have hi : ∀ h, (s[1]'h).toNat = b := fun h => hb.symm
    have HE : Hid (escD s.data.toList = if b = 110 then (10, 2) else if b = 116 then (9, 2) else if b = 114 then (13, 2) else if b = 34 ∨ b = 92 then (b, 2)
        else if b = 120 ∧ 4 ≤ s.size then (match hexs 0 (s.extract 2 4).data.toList with
          | some n => (n % 256, 4)
          | none => (0, 0))
        else (0, 0)) := by
      refine Lib.hid ?_
      have hl : ∃ x y r, s.data.toList = x :: y :: r := by
        have : 2 ≤ s.data.toList.length := by rw [← Lib.size_eq]; omega
        match s.data.toList, this with
        | x :: y :: r, _ => exact ⟨x, y, r, rfl⟩
      obtain ⟨x, y, r, hl⟩ := hl
      have hy : b = y.toNat := by
        rw [hb]
        show (s.data[1]'_).toNat = _
        rw [← Array.getElem_toList]
        simp [hl]
      have hr : (s.extract 2 4).data.toList = r.take 2 := by
        rw [ByteArray.data_extract, Array.toList_extract, List.extract_eq_take_drop, hl]
        rfl
      have hz : 4 ≤ s.size ↔ 2 ≤ r.length := by rw [Lib.size_eq, hl]; simp
      rw [hl, hy, hr]
      simp only [escD, hz]
    clear hb
    by_cases c1 : b = 110
    · have hE : escD s.data.toList = (10, 2) := by rw [HE.out, if_pos c1]
      rw [hE]
      subst c1
      go_enter Tryd.func57, Tryd.ntmps57
      go_wp2
      go_ret2
      exact ⟨rfl, Below.refl _ _⟩
    · by_cases c2 : b = 116
      · have hE : escD s.data.toList = (9, 2) := by rw [HE.out, if_neg c1, if_pos c2]
        rw [hE]
        subst c2
        go_enter Tryd.func57, Tryd.ntmps57
        go_wp2
        go_ret2
        exact ⟨rfl, Below.refl _ _⟩
      · by_cases c3 : b = 114
        · have hE : escD s.data.toList = (13, 2) := by rw [HE.out, if_neg c1, if_neg c2, if_pos c3]
          rw [hE]
          subst c3
          go_enter Tryd.func57, Tryd.ntmps57
          go_wp2
          go_ret2
          exact ⟨rfl, Below.refl _ _⟩
        · have d1 : ¬ (b : Int) = 110 := by omega
          have d2 : ¬ (b : Int) = 116 := by omega
          have d3 : ¬ (b : Int) = 114 := by omega
          by_cases c4 : b = 34
          · have hE : escD s.data.toList = (34, 2) := by rw [HE.out, if_neg c1, if_neg c2, if_neg c3, if_pos (.inl c4), c4]
            rw [hE]
            subst c4
            clear HE hE
            go_enter Tryd.func57, Tryd.ntmps57
            go_wp2
            go_ret2
            exact ⟨rfl, Below.refl _ _⟩
          · by_cases c5 : b = 92
            · have hE : escD s.data.toList = (92, 2) := by rw [HE.out, if_neg c1, if_neg c2, if_neg c3, if_pos (.inr c5), c5]
              rw [hE]
              subst c5
              clear HE hE
              go_enter Tryd.func57, Tryd.ntmps57
              go_wp2
              go_ret2
              exact ⟨rfl, Below.refl _ _⟩
            · have d4 : ¬ (b : Int) = 34 := by omega
              have d5 : ¬ (b : Int) = 92 := by omega
              by_cases c6 : b = 120
              · by_cases c7 : 4 ≤ s.size
                · have hE : escD s.data.toList = (match hexs 0 (s.extract 2 4).data.toList with
                      | some n => (n % 256, 4)
                      | none => (0, 0)) := by rw [HE.out, if_neg c1, if_neg c2, if_neg c3, if_neg (by omega), if_pos ⟨c6, c7⟩]
                  rw [hE]
                  clear HE hE
                  have hx2 : (s.extract 2 4).size = 2 := by rw [ByteArray.size_extract]; omega
                  have HP := Lib.hid (parseUint_any (s.extract 2 4) hx2 w HG.out)
                  obtain ⟨o, ho⟩ : ∃ o, o = hexs 0 (s.extract 2 4).data.toList := ⟨_, rfl⟩
                  rw [← ho] at HP ⊢
                  clear ho hx2
                  subst c6
                  have c8 : ¬ (s.size : Int) < 4 := by omega
                  go_enter Tryd.func57, Tryd.ntmps57
                  go_wp2_with fail
                  refine HP.out.mono ?_
                  rintro e w1 ⟨hB, he⟩
                  have HB := Lib.hid hB
                  clear hB HP
                  cases o with
                  | some n =>
                    dsimp only at he
                    subst he
                    go_wp2
                    go_ret2
                    exact ⟨by simp, HB.out⟩
                  | none =>
                    dsimp only at he
                    obtain ⟨N, rfl⟩ := he
                    go_wp2
                    go_ret2
                    exact ⟨rfl, HB.out⟩
                · have hE : escD s.data.toList = (0, 0) := by rw [HE.out, if_neg c1, if_neg c2, if_neg c3, if_neg (by omega), if_neg (fun h => c7 h.2)]
                  rw [hE]
                  subst c6
                  have c8 : (s.size : Int) < 4 := by omega
                  clear HE hE
                  go_enter Tryd.func57, Tryd.ntmps57
                  go_wp2
                  go_ret2
                  exact ⟨rfl, Below.refl _ _⟩
              · have hE : escD s.data.toList = (0, 0) := by rw [HE.out, if_neg c1, if_neg c2, if_neg c3, if_neg (by omega), if_neg (fun h => c6 h.1)]
                rw [hE]
                have d6 : ¬ (b : Int) = 120 := by omega
                clear HE hE
                go_enter Tryd.func57, Tryd.ntmps57
                go_wp2
                go_ret2
                exact ⟨rfl, Below.refl _ _⟩

/-- The byte at a text's beginning, and how long it stands there. -/
def byteD : List UInt8 → Nat × Nat
  | [] => (0, 0)
  | c :: r => if c.toNat = 92 then escD (c :: r) else if 32 ≤ c.toNat ∧ c.toNat ≤ 126 then (c.toNat, 1) else (0, 0)

set_option maxHeartbeats 800000 in
theorem rdByte_any (s : ByteArray) (hs : s.size ≤ 140737488351232) (w : World) (hG : Glob w) :
    Calls Tryd.prog 40 #[.string s] w fun e w' => e = .returned (.tuple #[.int .u8 (byteD s.data.toList).1, .int .i64 (byteD s.data.toList).2]) ∧ Below w.heap.size w w' := by
  have HR := Lib.hid (rdEscape_any s hs w hG)
  clear hG
  by_cases h0 : s.size = 0
  · have hE : byteD s.data.toList = (0, 0) := by rw [(list_empty s).1 h0]; rfl
    have hem := isEmpty_of s h0
    rw [hE]
    go_enter Tryd.func40, Tryd.ntmps40
    go_wp2
    go_ret2
    exact ⟨rfl, Below.refl _ _⟩
  · have hem := isEmpty_not s h0
    obtain ⟨b, hb⟩ : ∃ b, b = (s[0]'(by omega)).toNat := ⟨_, rfl⟩
    have hi : ∀ h, (s[0]'h).toNat = b := fun h => hb.symm
    have HE : Hid (byteD s.data.toList = if b = 92 then escD s.data.toList else if 32 ≤ b ∧ b ≤ 126 then (b, 1) else (0, 0)) := by
      refine Lib.hid ?_
      have h := drop_at s 0 (by omega)
      rw [List.drop_zero] at h
      rw [h, hb]
      rfl
    clear hb
    have hpos : (0 : Int) < s.size := by omega
    by_cases c1 : b = 92
    · have hE : byteD s.data.toList = escD s.data.toList := by rw [HE.out, if_pos c1]
      rw [hE]
      clear HE hE
      obtain ⟨q, hq⟩ : ∃ q, q = escD s.data.toList := ⟨_, rfl⟩
      rw [← hq] at HR ⊢
      clear hq
      obtain ⟨q1, q2⟩ := q
      subst c1
      go_enter Tryd.func40, Tryd.ntmps40
      go_wp2_with (go_at_call 57; refine HR.out.mono ?_; rintro e w1 ⟨rfl, hB⟩)
      go_ret2
      exact ⟨rfl, by assumption⟩
    · have d1 : ¬ (b : Int) = 92 := by omega
      have hE : byteD s.data.toList = if 32 ≤ b ∧ b ≤ 126 then (b, 1) else (0, 0) := by rw [HE.out, if_neg c1]
      rw [hE]
      clear HE hE HR
      by_cases c2 : 32 ≤ b
      · by_cases c3 : b ≤ 126
        · rw [if_pos ⟨c2, c3⟩]
          have d2 : (32 : Int) ≤ b := by omega
          have d3 : (b : Int) ≤ 126 := by omega
          go_enter Tryd.func40, Tryd.ntmps40
          go_wp2
          go_ret2
          exact ⟨rfl, Below.refl _ _⟩
        · rw [if_neg (fun h => c3 h.2)]
          have d2 : (32 : Int) ≤ b := by omega
          have d3 : ¬ (b : Int) ≤ 126 := by omega
          go_enter Tryd.func40, Tryd.ntmps40
          go_wp2
          go_ret2
          exact ⟨rfl, Below.refl _ _⟩
      · rw [if_neg (fun h => c2 h.1)]
        have d2 : ¬ (32 : Int) ≤ b := by omega
        go_enter Tryd.func40, Tryd.ntmps40
        go_wp2
        go_ret2
        exact ⟨rfl, Below.refl _ _⟩

/-! ### how far a set goes -/
/-- Behind the first ] with no \ ahead; 0: there is none. -/
def setL : List UInt8 → Nat
  | [] => 0
  | c :: r => if c.toNat = 92 then (match r with
      | [] => 0
      | _ :: r' => if setL r' = 0 then 0 else setL r' + 2)
    else if c.toNat = 93 then 1 else if setL r = 0 then 0 else setL r + 1
def ofs (i n : Nat) : Nat := if n = 0 then 0 else i + n

theorem setL_cons (c : UInt8) (r : List UInt8) : setL (c :: r) = if c.toNat = 92 then (match r with
      | [] => 0
      | _ :: r' => if setL r' = 0 then 0 else setL r' + 2)
    else if c.toNat = 93 then 1 else if setL r = 0 then 0 else setL r + 1 := by
  conv => lhs; unfold setL
theorem setL_le : ∀ (n : Nat) (l : List UInt8), l.length ≤ n → setL l ≤ l.length := by
  intro n
  induction n with
  | zero => intro l h; have : l = [] := List.length_eq_zero_iff.1 (by omega); subst this; simp [setL]
  | succ n ih =>
    intro l h
    match l, h with
    | [], _ => simp [setL]
    | [c], _ =>
      rw [setL_cons]
      simp [setL]
      split
      · simp
      · split <;> simp
    | c :: d :: r, h =>
      have h1 := ih r (by simp at h; omega)
      have h2 := ih (d :: r) (by simp at h ⊢; omega)
      rw [setL_cons]
      simp only [List.length_cons] at *
      split
      · split <;> omega
      · split
        · omega
        · split <;> omega

theorem ofs_two (k n : Nat) : ofs k (if n = 0 then 0 else n + 2) = ofs (k + 2) n := by
  unfold ofs
  by_cases h : n = 0
  · simp [h]
  · simp [h]; omega
theorem ofs_one (k n : Nat) : ofs k (if n = 0 then 0 else n + 1) = ofs (k + 1) n := by
  unfold ofs
  by_cases h : n = 0
  · simp [h]
  · simp [h]; omega
set_option maxHeartbeats 1600000 in
theorem setLength_any (s : ByteArray) (hs : s.size ≤ 140737488351232) (w : World) : Calls Tryd.prog 41 #[.string s] w fun e w' => e = .returned (.int .i64 (setL s.data.toList : Nat)) ∧ w = w' := by
  go_enter Tryd.func41, Tryd.ntmps41
  go_wp2
  go_step3
  go_wp2
  go_step3
  go_wp2
  go_loop [3, 4] (fun n i => ∃ k : Nat, n = .int .i64 0 ∧ i = .int .i64 k ∧ k ≤ s.size + 1 ∧ Hid (setL s.data.toList = ofs k (setL (s.data.toList.drop k)))) (fun _ i => s.size + 1 - (intOf i).toNat)
  case atStart => exact ⟨0, rfl, rfl, Nat.zero_le _, Lib.hid (by rw [List.drop_zero]; unfold ofs; split <;> omega)⟩
  case round =>
    obtain ⟨k, rfl, rfl, hk, hS⟩ := hrel
    by_cases hlt : k < s.size
    · obtain ⟨b, hb⟩ : ∃ b, b = (s[k]'hlt).toNat := ⟨_, rfl⟩
      have hi : ∀ h, (s[k]'h).toNat = b := fun h => hb.symm
      have n1 : (k : Int) < (s.size : Int) := by omega
      have HD := Lib.hid (drop_at s k hlt)
      by_cases c1 : b = 92
      · have hN : Hid (setL s.data.toList = ofs (k + 2) (setL (s.data.toList.drop (k + 2)))) := by
          refine Lib.hid ?_
          rw [hS.out, HD.out, setL_cons, hi, if_pos c1, ← List.drop_drop (i := 1) (j := k + 1)]
          generalize s.data.toList.drop (k + 1) = r
          match r with
          | [] => simp [setL, ofs]
          | x :: r' =>
            exact ofs_two k (setL r')
        clear hb hS HD
        subst c1
        go_wp2
        go_round
        case rel => exact ⟨k + 2, rfl, by go_num, by omega, hN⟩
        case measure => simp [intOf]; omega
      · have d1 : ¬ (b : Int) = 92 := by omega
        by_cases c2 : b = 93
        · have hN : Hid (setL s.data.toList = k + 1) := by
            refine Lib.hid ?_
            rw [hS.out, HD.out, setL_cons, hi, if_neg c1, if_pos c2]
            rfl
          clear hb hS HD
          subst c2
          go_wp2
          go_ret
          exact ⟨by rw [hN.out]; rfl, rfl⟩
        · have d2 : ¬ (b : Int) = 93 := by omega
          have hN : Hid (setL s.data.toList = ofs (k + 1) (setL (s.data.toList.drop (k + 1)))) := by
            refine Lib.hid ?_
            rw [hS.out, HD.out, setL_cons, hi, if_neg c1, if_neg c2, ofs_one]
          clear hb hS HD
          go_wp2
          go_round
          case rel => exact ⟨k + 1, rfl, by go_num, by omega, hN⟩
          case measure => simp [intOf]; omega
    · have n1 : ¬ (k : Int) < (s.size : Int) := by omega
      have hN : Hid (setL s.data.toList = 0) := by
        refine Lib.hid ?_
        rw [hS.out, List.drop_eq_nil_of_le (by rw [← Lib.size_eq]; omega)]
        rfl
      clear hS
      go_wp2
      go_ret
      exact ⟨by rw [hN.out]; rfl, rfl⟩
end Go.Proofs.YtdodkbpagbblmaaDoor
