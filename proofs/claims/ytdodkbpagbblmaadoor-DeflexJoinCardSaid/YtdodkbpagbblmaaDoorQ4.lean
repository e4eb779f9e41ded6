import Derived.Test.YtdodkbpagbblmaaDoorQ3
namespace Go.Proofs.YtdodkbpagbblmaaDoor
open Go Go.RowKit

/-! ### blanks and comments -/
/-- How far it is to the line's end, or the text's. -/
def lineL : List UInt8 → Nat
  | [] => 0
  | c :: r => if c.toNat = 10 then 0 else lineL r + 1
theorem lineL_le (l : List UInt8) : lineL l ≤ l.length := by
  induction l with
  | nil => simp [lineL]
  | cons c r ih => unfold lineL; split <;> simp <;> omega
theorem lineL_index (l : List UInt8) : (Lib.indexByte l 10 = -1 ∧ lineL l = l.length) ∨ (Lib.indexByte l 10 = (lineL l : Int) ∧ lineL l < l.length) := by
  induction l with
  | nil => exact .inl ⟨rfl, rfl⟩
  | cons c r ih =>
    unfold Lib.indexByte lineL
    by_cases h : c = 10
    · subst h; right; simp
    · have h2 : (c == 10) = false := by simpa using h
      have h3 : ¬ c.toNat = 10 := fun e => h (UInt8.toNat_inj.1 (by rw [e]; rfl))
      rw [h2, if_neg h3]
      simp only [Bool.false_eq_true, if_false, List.length_cons]
      rcases ih with ⟨h4, h5⟩ | ⟨h4, h5⟩
      · left; rw [h4]; exact ⟨by simp, by omega⟩
      · right; rw [h4]
        have : ((lineL r : Int) == -1) = false := by rw [beq_eq_false_iff_ne]; omega
        rw [this]
        exact ⟨by simp, by omega⟩

set_option maxHeartbeats 800000 in
theorem cut0_any (s : ByteArray) (hs : s.size ≤ 140737488351232) (w : World) :
    Calls Tryd.prog 53 #[.string s, .string ⟨#[10]⟩] w fun e w' => ∃ c d x, e = .returned (.tuple #[.string c, .string d, .bool x]) ∧ c.size = lineL s.data.toList ∧ ∃ n, w' = w.drewN n := by
  have HI := Lib.hid (Tryd.stringslite_Index_one s 10 w)
  rcases lineL_index s.data.toList with ⟨h1, h2⟩ | ⟨h1, h2⟩
  · rw [h1] at HI
    have H2 : Hid (s.size = lineL s.data.toList) := Lib.hid (by rw [h2, Lib.size_eq])
    clear h1 h2
    go_enter Tryd.func53, Tryd.ntmps53
    go_wp2_with (go_at_call 67; refine HI.out.mono ?_; rintro e w' ⟨rfl, rfl⟩)
    go_ret3
    exact ⟨s, _, _, rfl, H2.out, 0, rfl⟩
  · rw [h1] at HI
    rw [← Lib.size_eq] at h2
    obtain ⟨q, hq⟩ : ∃ q, q = lineL s.data.toList := ⟨_, rfl⟩
    rw [← hq] at HI h2 ⊢
    clear h1 hq
    have n1 : (q : Int) + 1 ≤ (s.size : Int) := by omega
    have n2 : (q : Int) ≤ (s.size : Int) := by omega
    have n3 : (0 : Int) ≤ (q : Int) := by omega
    have n4 : (0 : Int) ≤ (q : Int) + 1 := by omega
    have hw1 : IntKind.i64.wrap ((q : Int) + 1) = (q : Int) + 1 := IntWalk.i64_in _ (by omega)
    have hsz : Hid ((s.extract 0 q).size = q) := Lib.hid (by rw [ByteArray.size_extract]; omega)
    go_enter Tryd.func53, Tryd.ntmps53
    go_wp2_with (go_at_call 67; refine HI.out.mono ?_; rintro e w' ⟨rfl, rfl⟩)
    go_quiet (fail)
    go_wp2
    go_ret3
    exact ⟨_, _, _, rfl, hsz.out, _, rfl⟩

set_option maxHeartbeats 800000 in
theorem cut_any (s : ByteArray) (hs : s.size ≤ 140737488351232) (w : World) :
    Calls Tryd.prog 37 #[.string s, .string ⟨#[10]⟩] w fun e w' => ∃ c d x, e = .returned (.tuple #[.string c, .string d, .bool x]) ∧ c.size = lineL s.data.toList ∧ ∃ n, w' = w.drewN n := by
  have HI := Lib.hid (cut0_any s hs w)
  go_enter Tryd.func37, Tryd.ntmps37
  go_wp2_with (go_at_call 53; refine HI.out.mono ?_; rintro e w' ⟨c, d, x, rfl, hc, n, rfl⟩; have HCc := Lib.hid hc; clear hc)
  go_ret3
  exact ⟨_, _, _, rfl, HCc.out, _, rfl⟩
end Go.Proofs.YtdodkbpagbblmaaDoor
