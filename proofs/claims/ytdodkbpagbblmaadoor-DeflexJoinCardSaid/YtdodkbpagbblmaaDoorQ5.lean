import Derived.Test.YtdodkbpagbblmaaDoorQ4
namespace Go.Proofs.YtdodkbpagbblmaaDoor
open Go Go.RowKit

/-- How many bytes of blanks and comments a text begins with. -/
def skipF : Nat → List UInt8 → Nat
  | 0, _ => 0
  | f + 1, l => match l with
    | [] => 0
    | c :: r => if blkB c.toNat then skipF f r + 1 else if Lib.hasPrefix (c :: r) [47, 47] then lineL (c :: r) + skipF f ((c :: r).drop (lineL (c :: r))) else 0
def skipL (l : List UInt8) : Nat := skipF (l.length + 1) l

theorem lineL_two (c : UInt8) (r : List UInt8) (h : Lib.hasPrefix (c :: r) [47, 47] = true) : 2 ≤ lineL (c :: r) := by
  unfold Lib.hasPrefix at h
  match r with
  | [] => simp [List.isPrefixOf] at h
  | d :: r =>
    simp [List.isPrefixOf] at h
    obtain ⟨h1, h2⟩ := h
    subst h1; subst h2
    simp [lineL]

theorem skipF_more : ∀ (n : Nat) (l : List UInt8), l.length ≤ n → ∀ f, l.length + 1 ≤ f → skipF f l = skipF (l.length + 1) l := by
  intro n
  induction n with
  | zero =>
    intro l hl f hf
    have : l = [] := List.length_eq_zero_iff.1 (by omega)
    subst this
    obtain ⟨g, rfl⟩ : ∃ g, f = g + 1 := ⟨f - 1, by simp at hf; omega⟩
    rfl
  | succ n ih =>
    intro l hl f hf
    obtain ⟨g, rfl⟩ : ∃ g, f = g + 1 := ⟨f - 1, by omega⟩
    match l, hl, hf with
    | [], _, _ => rfl
    | c :: r, hl, hf =>
      simp only [List.length_cons] at hl hf
      unfold skipF
      simp only [List.length_cons]
      split
      · rw [ih r (by omega) g (by omega), ih r (by omega) (r.length + 1) (by omega)]
      · split
        · rename_i h
          have h2 := lineL_two c r h
          have h3 := lineL_le (c :: r)
          rw [List.length_cons] at h3
          have hd : ((c :: r).drop (lineL (c :: r))).length + 1 ≤ r.length := by
            rw [List.length_drop, List.length_cons]; omega
          rw [ih _ (by omega) g (by omega), ih _ (by omega) (r.length + 1) (by omega)]
        · rfl
theorem skipL_nil : skipL [] = 0 := rfl
theorem skipL_blank (c : UInt8) (r : List UInt8) (h : blkB c.toNat = true) : skipL (c :: r) = skipL r + 1 := by
  unfold skipL
  conv => lhs; unfold skipF
  simp only [h, if_true, List.length_cons]
theorem skipL_comment (c : UInt8) (r : List UInt8) (h : blkB c.toNat = false) (hp : Lib.hasPrefix (c :: r) [47, 47] = true) : skipL (c :: r) = lineL (c :: r) + skipL ((c :: r).drop (lineL (c :: r))) := by
  have h2 := lineL_two c r hp
  unfold skipL
  conv => lhs; unfold skipF
  simp only [h, hp, if_true, List.length_cons, Bool.false_eq_true, if_false]
  rw [skipF_more r.length _ (by rw [List.length_drop, List.length_cons]; omega) (r.length + 1) (by rw [List.length_drop, List.length_cons]; omega)]
theorem skipL_end (c : UInt8) (r : List UInt8) (h : blkB c.toNat = false) (hp : Lib.hasPrefix (c :: r) [47, 47] = false) : skipL (c :: r) = 0 := by
  unfold skipL skipF
  simp [h, hp]
theorem skipF_le : ∀ (f : Nat) (l : List UInt8), skipF f l ≤ l.length := by
  intro f
  induction f with
  | zero => intro l; simp [skipF]
  | succ f ih =>
    intro l
    match l with
    | [] => simp [skipF]
    | c :: r =>
      unfold skipF
      simp only
      split
      · have := ih r; simp; omega
      · split
        · have h1 := ih ((c :: r).drop (lineL (c :: r)))
          have h2 := lineL_le (c :: r)
          rw [List.length_drop] at h1
          omega
        · simp
theorem skipL_le (l : List UInt8) : skipL l ≤ l.length := skipF_le _ l

theorem drop_len (t : ByteArray) (k : Nat) : (t.data.toList.drop k).length = t.size - k := by rw [List.length_drop, ← Lib.size_eq]

theorem grown_drew {w W : World} {r : Option Nat} (h : w.grownBy W r) : w.grownBy W.drew r := ⟨h.os, h.tape, h.output, h.size, h.block⟩
theorem grown_drewN {w W : World} {r : Option Nat} (h : w.grownBy W r) (n : Nat) : w.grownBy (W.drewN n) r := ⟨h.os, h.tape, h.output, h.size, h.block⟩

set_option maxRecDepth 100000 in
set_option maxHeartbeats 8000000 in
theorem passBlanks_any (B : Nat) (t : ByteArray) (k : Nat) (ht : t.size ≤ 1048576) (hk : k ≤ t.size) (w : World) (hB : Rdr w B t k) :
    Calls Tryd.prog 21 #[.pointer (some ⟨B, 0, none⟩)] w fun e w' => e = .returned (.tuple #[]) ∧ w.grownBy w' (some B) ∧ Rdr w' B t (k + skipL (t.data.toList.drop k)) := by
  have HB := Lib.hid hB
  have hg0 : Hid (w.grownBy w (some B)) := grown_of_below' (Below.refl _ _) _
  clear hB
  go_enter Tryd.func21, Tryd.ntmps21
  go_wp2
  go_loopg [2, 3, 4, 5] (t.size - k) (fun n a b c d wr => ∃ m : Nat, m ≤ t.size ∧ n = t.size - m ∧ Hid (k + skipL (t.data.toList.drop k) = m + skipL (t.data.toList.drop m)) ∧ Hid (Rdr wr B t m) ∧ Hid (w.grownBy wr (some B)))
  case atStart => exact ⟨k, hk, rfl, Lib.hid rfl, HB, hg0⟩
  case round =>
    obtain ⟨m, hm, rfl, hS, hR, hG⟩ := hrel
    have c0 : wr.cell? ⟨B, 0, none⟩ = some (.string t) := hR.out.cell 0
    have c1 : wr.cell? ⟨B, 1, none⟩ = some (.int .i64 (m : Int)) := hR.out.cell 1
    have fz := hR.out.frozen 1
    have hlt := hR.out.lt
    by_cases hmt : m < t.size
    · have n1 : (m : Int) < (t.size : Int) := by omega
      have n2 : (0 : Int) ≤ (m : Int) := by omega
      have n3 : (m : Int) ≤ (t.size : Int) := by omega
      have hsz : (t.extract m t.size).size = t.size - m := by rw [ByteArray.size_extract]; omega
      have hls : (t.extract m t.size).data.toList = t.data.toList.drop m := extract_drop t m
      obtain ⟨b, hb⟩ : ∃ b, b = (t[m]'hmt).toNat := ⟨_, rfl⟩
      have hdr := drop_at t m hmt
      have hi : ∀ h, ((t.extract m t.size)[0]'h).toNat = b := by
        intro h
        rw [hb]
        show ((t.extract m t.size).data[0]'_).toNat = _
        rw [← Array.getElem_toList]
        simp only [hls, hdr, List.getElem_cons_zero]
      have HBl := isBlank_any b
      have HP := Tryd.strings_HasPrefix (t.extract m t.size) ⟨#[47, 47]⟩
      rw [hls, hdr] at HP
      have HCu := cut_any (t.extract m t.size) (by omega)
      rw [hls] at HCu
      have hll := lineL_le (t.data.toList.drop m)
      rw [drop_len] at hll
      rw [hdr] at hS
      have hpos : (0 : Int) < ((t.size - m : Nat) : Int) := by omega
      have HBl := fun w' => Lib.hid (HBl w')
      have HCu := fun w' => Lib.hid (HCu w')
      have hp2 : (⟨#[47, 47]⟩ : ByteArray).data.toList = [47, 47] := rfl
      rw [hp2] at HP
      have HP := fun w' => Lib.hid (HP w')
      have Hls := Lib.hid hls
      have Hb := Lib.hid hb
      have Hdr := Lib.hid hdr
      clear hls hb hdr hp2
      cases hbl : blkB b with
      | true =>
        rw [hbl] at HBl
        have hN : Hid (k + skipL (t.data.toList.drop k) = m + 1 + skipL (t.data.toList.drop (m + 1))) := by
          refine Lib.hid ?_
          rw [hS.out, skipL_blank _ _ (by rw [← Hb.out]; exact hbl)]
          omega
        have hR1 : Hid (Rdr (wr.setCell ⟨B, 1, none⟩ (.int .i64 ((m : Int) + 1))) B t (m + 1)) := Lib.hid (hR.out.set 1 (.int .i64 ((m : Int) + 1)))
        have hG1 := Lib.hid (grown_set hG.out 1 (.int .i64 ((m : Int) + 1)))
        clear hbl hS Hls Hb Hdr hR hG HP HCu
        go_wp2
        go_region
        go_wp2
        go_region
        go_wp2_with (go_at_call 35; refine (HBl _).out.mono ?_; rintro e w' ⟨rfl, rfl⟩)
        go_roundg (t.size - (m + 1))
        case measure => omega
        case rel => exact ⟨m + 1, by omega, rfl, hN, hR1, Lib.hid (grown_drew (grown_drew hG1.out))⟩
      | false =>
        rw [hbl] at HBl
        have hbl2 : Hid (blkB (t[m]'hmt).toNat = false) := Lib.hid (by rw [← Hb.out]; exact hbl)
        cases hpp : Lib.hasPrefix (t[m] :: t.data.toList.drop (m + 1)) [47, 47] with
        | true =>
          rw [hpp] at HP
          obtain ⟨q, hq⟩ : ∃ q, q = lineL (t.data.toList.drop m) := ⟨_, rfl⟩
          have hN : Hid (k + skipL (t.data.toList.drop k) = m + q + skipL (t.data.toList.drop (m + q))) := by
            refine Lib.hid ?_
            rw [hS.out, skipL_comment _ _ hbl2.out hpp, ← Hdr.out, ← hq, List.drop_drop]
            omega
          have hq2 : 2 ≤ q := by
            have := lineL_two _ _ hpp
            rw [← Hdr.out, ← hq] at this
            exact this
          rw [← hq] at HCu hll
          have hR1 : Hid (Rdr (wr.setCell ⟨B, 1, none⟩ (.int .i64 ((m : Int) + q))) B t (m + q)) := Lib.hid (hR.out.set 1 (.int .i64 ((m : Int) + q)))
          clear hbl hbl2 hpp hq hS Hls Hb Hdr hR
          go_wp2
          go_region
          go_wp2
          go_region
          go_wp2_with (first | (go_at_call 35; refine (HBl _).out.mono ?_; rintro e w' ⟨rfl, rfl⟩) | (go_at_call 36; refine (HP _).out.mono ?_; rintro e w' ⟨rfl, rfl⟩))
          refine (HCu _).out.mono ?_
          rintro e w1 ⟨cs, cd, cx, rfl, hcs, nd, rfl⟩
          have hcs2 : cs.size = q := hcs
          have hcI : (cs.size : Int) = (q : Int) := by omega
          clear HCu HP HBl hcs
          go_wp2
          go_roundg (t.size - (m + q))
          case measure => omega
          case rel =>
            refine ⟨m + q, by omega, rfl, hN, ?_, Lib.hid ?_⟩
            · exact Lib.hid (show Rdr _ B t (m + q) from hR1.out)
            · exact grown_set (grown_drewN hG.out _) 1 _
        | false =>
          rw [hpp] at HP
          have hN : Hid (k + skipL (t.data.toList.drop k) = m) := by
            refine Lib.hid ?_
            rw [hS.out, skipL_end _ _ hbl2.out hpp]
            rfl
          have HX : Hid (Rdr wr B t (k + skipL (t.data.toList.drop k))) := Lib.hid (by rw [hN.out]; exact hR.out)
          have hG2 := Lib.hid (grown_drew (grown_drew hG.out))
          clear hbl hbl2 hpp hS Hls Hb Hdr hR hG hN
          go_wp2
          go_region
          go_wp2
          go_region
          go_wp2_with (first | (go_at_call 35; refine (HBl _).out.mono ?_; rintro e w' ⟨rfl, rfl⟩) | (go_at_call 36; refine (HP _).out.mono ?_; rintro e w' ⟨rfl, rfl⟩))
          refine bodyPost_ret (results_none rfl _ _ _) rfl ?_
          exact ⟨rfl, hG2.out, HX.out⟩
    · have n1 : ¬ (m : Int) < (t.size : Int) := by omega
      have hm2 : m = t.size := by omega
      have hN : Hid (k + skipL (t.data.toList.drop k) = m) := by
        refine Lib.hid ?_
        rw [hS.out, List.drop_eq_nil_of_le (by rw [← Lib.size_eq]; omega), skipL_nil]
        rfl
      have HX : Hid (Rdr wr B t (k + skipL (t.data.toList.drop k))) := Lib.hid (by rw [hN.out]; exact hR.out)
      clear hm2
      have hG2 : Hid (w.grownBy wr.drew (some B)) := Lib.hid (grown_drew hG.out)
      have HX2 : Hid (Rdr wr.drew B t (k + skipL (t.data.toList.drop k))) := HX
      clear hG HX hR hN hS
      go_wp2
      go_region
      go_wp2
      go_end0
      exact ⟨rfl, hG2.out, HX2.out⟩
end Go.Proofs.YtdodkbpagbblmaaDoor
