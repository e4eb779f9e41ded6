import Derived.Test.YtmlkeddiagmedaaLong
import Derived.Test.YtmlkeddiagmedaaLib2
import Derived.Test.YtmlkeddiagmedaaPos2
import Derived.Test.YtmlkeddiagmedaaKnown
import Derived.Lib.Repeat
namespace Go.Proofs.Ytmlkeddiagmedaa
open Go.RowKit

theorem rep_any (c : UInt8) (n : Nat) (h : n ≤ 1048600) : ∃ T : ByteArray, T.size = n ∧ ∀ w : World, Calls Try.prog 21 #[.string ⟨#[c]⟩, .int .i64 n] w fun e w' => e = .returned (.string T) ∧ Below w.heap.size w w' := by
  refine ⟨⟨(Lib.repeatL [c] n).toArray⟩, ?_, fun w => Try.strings_Repeat ⟨#[c]⟩ n w (by omega) (by show 1 * n ≤ _; omega)⟩
  show (Lib.repeatL [c] n).toArray.size = n
  rw [List.size_toArray, Lib.repeatL_length]
  simp

theorem place_first (T : ByteArray) (h : T.size ≤ 1048576) (w : World) : Calls Try.prog 11 #[.string T, .agg #[.int .i64 1, .int .i64 1]] w fun e w' => (∃ p, e = .returned (.tuple #[.int .i64 p, .int .i64 0])) ∧ Below w.heap.size w w' := by
  refine (place_any T 1 1 w h).mono ?_
  rintro e w' ⟨hB, ⟨p, hp, rfl⟩ | ⟨hno, rfl⟩⟩
  · exact ⟨⟨p, rfl⟩, hB⟩
  · obtain ⟨h1, h2⟩ := pos_zero T
    exact absurd ⟨h1, h2⟩ (place_no T _ _ hno 0 (Nat.zero_le _))

theorem apply_put (T Y : ByteArray) (blk cap : Nat) (w : World) (hT : T.size ≤ 1048576) (hY : Y.size ≤ 3) (hd : RowEd w (some ⟨blk, 0, none⟩) [(0, 0, Y)]) :
    Calls Try.prog 16 #[.string T, .slice (some ⟨blk, 0, none⟩) 1 cap] w fun e w' => Below w.heap.size w w' ∧
      ((1048576 < T.size + Y.size ∧ e = .returned (.tuple #[.string ⟨#[]⟩, .int .i64 3])) ∨ (T.size + Y.size ≤ 1048576 ∧ ∃ R : ByteArray, R.size = T.size + Y.size ∧ e = .returned (.tuple #[.string R, .int .i64 0]))) := by
  have hg : goodEd T.size (0, 0, Y) := by unfold goodEd; simp only; omega
  have hsum : sumG [(0, 0, Y)] = Y.size := by rw [sumG_cons]; simp [growI, sumG]
  refine (apply_any T _ cap [(0, 0, Y)] w 3 hT hd (by simp) (by intro x hx; simp at hx; subst hx; exact hY) (by decide) (by simp)).mono ?_
  rintro e w' ⟨hB, ⟨hno, rfl⟩ | ⟨hgood, sd, hperm, hsort, h⟩⟩
  · exact absurd (fun x hx => by simp at hx; subst hx; exact hg) hno
  · have : sd = [(0, 0, Y)] := List.perm_singleton.1 hperm
    subst this
    refine ⟨hB, ?_⟩
    rw [hsum] at h
    rcases h with ⟨hov, _⟩ | ⟨hnov, ⟨hbig, rfl⟩ | ⟨hle, rfl⟩⟩
    · exact absurd hov (ovl_one _)
    · exact .inl ⟨by omega, rfl⟩
    · refine .inr ⟨by omega, _, ?_, rfl⟩
      have := applyA_length T [(0, 0, Y)] (fun x hx => by simp at hx; subst hx; exact hg) hnov
      rw [hsum] at this
      show (applyA T.data.toList [(0, 0, Y)]).toArray.size = _
      rw [List.size_toArray]
      omega

def lawPost3 (w : World) (e : Ending) (w' : World) : Prop := e = .returned (.bool true) ∧ Below w.heap.size w w'

set_option maxHeartbeats 1000000 in
theorem lawLong_out (m p : Int) (w : World) (h : m < 0 ∨ 3 < m ∨ p < 0 ∨ 3 < p) :
    Calls Try.prog 7 #[.int .i64 m, .int .i64 p] w (lawPost3 w) := by
  by_cases h1 : m < 0
  all_goals by_cases h2 : 3 < m
  all_goals by_cases h3 : p < 0
  all_goals by_cases h4 : 3 < p
  all_goals first
    | (exfalso; omega)
    | (go_enter Try.func7, Try.ntmps7
       go_wp2_with fail
       refine (known_any _).mono ?_
       rintro e w' ⟨rfl, hB⟩
       go_wp2
       go_ret
       exact ⟨rfl, hB⟩)

set_option maxRecDepth 100000 in
set_option maxHeartbeats 2000000 in
theorem lawLong_big (m p : Nat) (w : World) (hm : 1 < m) (hm2 : m ≤ 3) (hp : p ≤ 3) :
    Calls Try.prog 7 #[.int .i64 m, .int .i64 p] w (lawPost3 w) := by
  obtain ⟨T, hT, hT1⟩ := rep_any 120 (1048575 + m) (by omega)
  obtain ⟨Y, hY, hY1⟩ := rep_any 121 p (by omega)
  have HT := Lib.hid hT1
  have HY := Lib.hid hY1
  have t1 : 1048576 < T.size := by omega
  have t2 : T.size ≤ 1048600 := by omega
  have HA := Lib.hid (fun W => at_long T 0 W t1 (by omega))
  have HP := Lib.hid (fun W => place_long T 1 1 W t1 (by omega))
  have HL := Lib.hid (fun v W => apply_long T v W t1 (by omega))
  have e1 : (1048575 : Int) + (m : Int) = ((1048575 + m : Nat) : Int) := by omega
  rw [← e1] at HT
  clear hT1 hY1 hT hY e1
  go_enter Try.func7, Try.ntmps7
  go_wp2_with fail
  refine (HT.out _).mono ?_
  rintro e w1 ⟨rfl, hB1⟩
  go_wp2_with fail
  refine (HA.out _).mono ?_
  rintro e w2 ⟨rfl, hB2⟩
  have HB2 : Hid (Below w.heap.size w w2) := hB1.trans (hB2.mono hB1.size)
  clear hB1 hB2
  go_wp2_with fail
  refine (HP.out _).mono ?_
  rintro e w3 ⟨rfl, hB3⟩
  have HB3 : Hid (Below w.heap.size w w3) := (HB2.out.alloc HB2.out.size _).trans (hB3.mono (by have := HB2.out.size; simp; omega))
  clear hB3 HB2
  go_wp2_with fail
  refine (HY.out _).mono ?_
  rintro e w4 ⟨rfl, hB4⟩
  have HB4 : Hid (Below w.heap.size w w4) := HB3.out.trans (hB4.mono HB3.out.size)
  clear hB4 HB3
  go_wp2_with fail
  refine (HL.out _ _).mono ?_
  rintro e w5 ⟨rfl, rfl⟩
  have hs4 := HB4.out.size
  go_wp2_with fail
  refine (known_any _).mono ?_
  rintro e w6 ⟨rfl, hB6⟩
  have HB6 : Hid (Below w.heap.size w w6) := (HB4.out.alloc hs4 _).trans (hB6.mono (by simp; omega))
  clear hB6
  go_wp2
  go_ret
  exact ⟨rfl, HB6.out⟩

set_option maxRecDepth 100000 in
set_option maxHeartbeats 2000000 in
theorem lawLong_small (m p : Nat) (w : World) (hm : m ≤ 1) (hp : p ≤ 3) :
    Calls Try.prog 7 #[.int .i64 m, .int .i64 p] w (lawPost3 w) := by
  obtain ⟨T, hT, hT1⟩ := rep_any 120 (1048575 + m) (by omega)
  obtain ⟨Y, hY, hY1⟩ := rep_any 121 p (by omega)
  have HT := Lib.hid hT1
  have HY := Lib.hid hY1
  have t1 : T.size ≤ 1048576 := by omega
  have t2 : Y.size ≤ 3 := by omega
  have HA := Lib.hid (fun W => at_ok T 0 W t1 (by omega))
  have HP := Lib.hid (fun W => place_first T t1 W)
  have HL := Lib.hid (fun (w4 : World) => apply_put T Y w4.heap.size 1 (w4.alloc (.cells #[.int .i64 0, .int .i64 0, .string Y] 42)) t1 t2 (rowEd_one (x := (0, 0, Y)) (Blk.new w4 42 _)))
  have e1 : (1048575 : Int) + (m : Int) = ((1048575 + m : Nat) : Int) := by omega
  have HTs := Lib.hid (And.intro hT hY)
  rw [← e1] at HT
  clear hT1 hY1 hT hY e1
  go_enter Try.func7, Try.ntmps7
  go_wp2_with fail
  refine (HT.out _).mono ?_
  rintro e w1 ⟨rfl, hB1⟩
  go_wp2_with fail
  refine (HA.out _).mono ?_
  rintro e w2 ⟨rfl, hB2⟩
  have HB2 : Hid (Below w.heap.size w w2) := hB1.trans (hB2.mono hB1.size)
  clear hB1 hB2
  go_wp2_with fail
  refine (HP.out _).mono ?_
  rintro e w3 ⟨⟨q, rfl⟩, hB3⟩
  have HB3 : Hid (Below w.heap.size w w3) := (HB2.out.alloc HB2.out.size _).trans (hB3.mono (by have := HB2.out.size; simp; omega))
  clear hB3 HB2
  go_wp2_with fail
  refine (HY.out _).mono ?_
  rintro e w4 ⟨rfl, hB4⟩
  have HB4 : Hid (Below w.heap.size w w4) := HB3.out.trans (hB4.mono HB3.out.size)
  have hs4 := HB4.out.size
  clear hB4 HB3
  go_wp2_with fail
  refine (HL.out _).mono ?_
  rintro e w5 ⟨hB5, ⟨hbig, rfl⟩ | ⟨hle, R, hR, rfl⟩⟩
  · have h1 : 1 < m + p := by have := HTs.out; omega
    have h2 : ¬ (1 < m) := by omega
    have HB5 : Hid (Below w.heap.size w w5) := (HB4.out.alloc hs4 _).trans (hB5.mono (by simp; omega))
    have hs5 := HB5.out.size
    clear hB5
    go_wp2_with fail
    refine (known_any _).mono ?_
    rintro e w6 ⟨rfl, hB6⟩
    have HB6 : Hid (Below w.heap.size w w6) := HB5.out.trans (hB6.mono hs5)
    clear hB6
    go_wp2
    go_ret
    exact ⟨rfl, HB6.out⟩
  · have h1 : ¬ (1 < m + p) := by have := HTs.out; omega
    have h2 : ¬ (1 < m) := by omega
    have h3 : ((R.size : Int) == (T.size : Int) + p) = true := by
      have := HTs.out
      rw [beq_iff_eq]; omega
    have HB5 : Hid (Below w.heap.size w w5) := (HB4.out.alloc hs4 _).trans (hB5.mono (by simp; omega))
    have hs5 := HB5.out.size
    have HRR := Lib.hid hR
    clear hB5 hR
    go_wp2_with fail
    refine (known_any _).mono ?_
    rintro e w6 ⟨rfl, hB6⟩
    have HB6 : Hid (Below w.heap.size w w6) := HB5.out.trans (hB6.mono hs5)
    clear hB6
    go_wp2
    go_ret
    exact ⟨rfl, HB6.out⟩

end Go.Proofs.Ytmlkeddiagmedaa
