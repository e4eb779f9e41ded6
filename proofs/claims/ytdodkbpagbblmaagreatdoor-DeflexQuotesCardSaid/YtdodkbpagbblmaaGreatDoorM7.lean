import Derived.Test.YtdodkbpagbblmaaGreatDoorM6
section
namespace Go.Proofs.YtdodkbpagbblmaaGreatDoor
open Go Go.RowKit

theorem all_any (t : ByteArray) (w : World) : Calls Tryz.prog 11 #[.string t] w fun e w' => e = .returned (.func (.func 25) #[] #[.pointer (some ⟨w.heap.size, 0, none⟩)]) ∧ w' = w.alloc (.cells #[.string t] 9) := by
  have hmf : ∀ (fn : Fn) (first cap : Array Value) (w : World), (Instr.makeFunc fn first cap).run Tryz.prog w = .ok (.func fn first cap) w := fun _ _ _ _ => rfl
  go_enter Tryz.func11, Tryz.ntmps11
  go_wp2
  go_ret
  exact ⟨rfl, rfl⟩
theorem neq_func (a : Value) (w : World) : (binOp .neq 37 (.func (.func 25) #[] #[a]) .nilFunc).run Tryz.prog w = .ok (.bool true) w := by kernel_rfl
theorem k_num (w : World) : (Op.equalIn 10000 35 (.agg #[.int .i64 4, .int .i64 12, .string ⟨#[]⟩, .int .u64 0, .int .u64 0, .int .u64 0, .int .u64 0, .int .i64 2]) (.agg #[.int .i64 4, .int .i64 12, .string ⟨#[]⟩, .int .u64 0, .int .u64 0, .int .u64 0, .int .u64 0, .int .i64 2])).run Tryz.prog w = .ok true w := by
  have h := eq_wds 9996 ⟨4, ⟨#[]⟩, 0#256, 2⟩ ⟨4, ⟨#[]⟩, 0#256, 2⟩ 12 12 w
  have e : ((4 : Int) == 4 && ((12 : Int) == 12 && ((⟨#[]⟩ : ByteArray).toList == (⟨#[]⟩ : ByteArray).toList && ((0#256 : BS) == 0#256 && (2 : Int) == 2)))) = true := by simp
  dsimp only at h
  rw [e] at h
  unfold wordV wordC at h
  obtain ⟨z0, z1, z2, z3⟩ := wz
  dsimp only at h
  rw [z0, z1, z2, z3] at h
  exact h

set_option maxRecDepth 100000 in
set_option maxHeartbeats 4000000 in
theorem works_any (w : World) (hG : GlobD w) : Calls Tryz.prog 6 #[] w fun e w' => e = .returned (.bool true) ∧ Below w.heap.size w w' := by
  have HG := Lib.hid hG
  have HE := k_num
  have HNF := neq_func
  have H1 := Lib.hid (lex_ok ⟨#[97, 49, 61, 34, 120, 34, 91, 92, 93, 45, 126, 93, 50, 59, 47, 47, 120]⟩ kWs k_lex (by decide) w hG)
  have H3 := Lib.hid (fun W hW => lex_bad ⟨#[98, 32, 34, 97]⟩ 2 k_bad (by decide) W hW)
  have H5 := Lib.hid (fun W => name_any ⟨#[97, 49]⟩ (by decide) W)
  rw [k_name] at H5
  clear hG
  go_enter Tryz.func6, Tryz.ntmps6
  go_wp2_with fail
  refine H1.out.mono ?_
  rintro e w1 ⟨v1, rfl, hown1, hB1⟩
  have hown1 : w1.ownsRow w.heap.size 35 8 v1 (5 + 1) (cellsW kWs) := hown1
  obtain ⟨g, c, rfl⟩ := ownsRow_succ hown1
  obtain ⟨a', cap', hsl, hrow⟩ := own_rowW (ws := kWs) hown1
  cases hsl
  have hG1 := HG.out.below (Nat.le_refl _) hB1
  have H2 : Hid (Calls Tryz.prog 13 #[.slice (some ⟨g, 0, none⟩) 6 c] w1 fun e w' => e = .returned (.tuple #[.string ⟨#[97, 49, 32, 61, 32, 34, 120, 34, 32, 91, 92, 93, 45, 126, 93, 32, 50, 32, 59]⟩, .int .i64 0]) ∧ Below w1.heap.size w1 w') := by
    refine Lib.hid ?_
    have h := print_any (some ⟨g, 0, none⟩) c (withI kWs) w1 hG1 hrow (by decide) (by decide +kernel)
    rw [k_print] at h
    exact h
  have hk : ∀ j, j < 48 → w1.cell? ⟨g, j, none⟩ = (cellsW kWs)[j]? := fun j hj => hown1.cellAt j (by omega)
  have HO1 := Lib.hid hown1
  have HG1 := Lib.hid hG1
  have HB1 := Lib.hid hB1
  clear hown1 hrow hG1 hB1 H1
  go_wp2_with fail
  refine H2.out.mono ?_
  rintro e w2 ⟨rfl, hB2⟩
  have HO2 := Lib.hid (own_below HO1.out hB2 (Nat.le_refl _))
  have HG2 := Lib.hid (HG1.out.below (Nat.le_refl _) hB2)
  have HB2 := Lib.hid (HB1.out.trans (hB2.mono HB1.out.size))
  clear HO1 HG1 HB1 H2 hB2 hk
  go_wp2_with fail
  refine (H3.out _ HG2.out).mono ?_
  rintro e w3 ⟨rfl, hB3⟩
  have hO3 := own_below HO2.out hB3 (Nat.le_refl _)
  have HB3 := Lib.hid (HB2.out.trans (hB3.mono HB2.out.size))
  have hk : ∀ j, j < 48 → w3.cell? ⟨g, j, none⟩ = (cellsW kWs)[j]? := fun j hj => hO3.cellAt j (by omega)
  have d0 : w3.cell? ⟨g, 32, none⟩ = some (.int .i64 4) := (hk 32 (by omega)).trans (by kernel_rfl)
  have d1 : w3.cell? ⟨g, 33, none⟩ = some (.int .i64 12) := (hk 33 (by omega)).trans (by kernel_rfl)
  have d2 : w3.cell? ⟨g, 34, none⟩ = some (.string ⟨#[]⟩) := (hk 34 (by omega)).trans (by kernel_rfl)
  have d3 : w3.cell? ⟨g, 35, none⟩ = some (.int .u64 0) := (hk 35 (by omega)).trans (by kernel_rfl)
  have d4 : w3.cell? ⟨g, 36, none⟩ = some (.int .u64 0) := (hk 36 (by omega)).trans (by kernel_rfl)
  have d5 : w3.cell? ⟨g, 37, none⟩ = some (.int .u64 0) := (hk 37 (by omega)).trans (by kernel_rfl)
  have d6 : w3.cell? ⟨g, 38, none⟩ = some (.int .u64 0) := (hk 38 (by omega)).trans (by kernel_rfl)
  have d7 : w3.cell? ⟨g, 39, none⟩ = some (.int .i64 2) := (hk 39 (by omega)).trans (by kernel_rfl)
  clear hk hO3 HO2 HG2 HB2 hB3
  go_wp2_with (first
    | (go_at_call 9; refine (num_any _ _).mono ?_; rintro e w' ⟨rfl, rfl⟩)
    | (go_at_call 11; refine (all_any _ _).mono ?_; rintro e w' ⟨rfl, rfl⟩)
    | (go_at_call 19; refine (H5.out _).mono ?_; rintro e w' ⟨rfl, rfl⟩))
  go_ret
  exact ⟨rfl, HB3.out.alloc HB3.out.size _⟩
end Go.Proofs.YtdodkbpagbblmaaGreatDoor
end
section
namespace Go.Proofs.YtdodkbpagbblmaaGreatDoor
open Go Go.RowKit

set_option maxRecDepth 100000 in
set_option maxHeartbeats 4000000 in
/-- DeflexQuotes' law, at every input. -/
theorem lawQuotes (s : ByteArray) (w : World) (hG : GlobD w) :
    Calls Tryz.prog 5 #[.string s] w fun e w' => e = .returned (.bool true) ∧ Below w.heap.size w w' := by
  have HW := Lib.hid (fun W hW => works_any W hW)
  have HG := Lib.hid hG
  clear hG
  by_cases h1 : 5000 < s.size
  · have n1 : (5000 : Int) < (s.size : Int) := by omega
    go_enter Tryz.func5, Tryz.ntmps5
    go_wp2_with (go_at_call 6; refine (HW.out _ HG.out).mono ?_; rintro e w1 ⟨rfl, hB⟩)
    go_ret
    exact ⟨rfl, hB⟩
  · have n1 : ¬ (5000 : Int) < (s.size : Int) := by omega
    have HQ := fun W => Lib.hid (quote_any s (by omega) W)
    have HR := fun W => Lib.hid (rquote_any s (by omega) W)
    have HN := fun W => Lib.hid (name_any s (by omega) W)
    have HM := fun W => Lib.hid (rname_any s (by omega) W)
    obtain ⟨T, hT⟩ : ∃ T, T = bytesStr (quoteF s.data.toList) := ⟨_, rfl⟩
    rw [← hT] at HQ HR
    obtain ⟨r, hr⟩ : ∃ r, r = nameB s.data.toList := ⟨_, rfl⟩
    rw [← hr] at HN HM
    clear hT hr h1
    have hTT : (T.toList == T.toList) = true := by simp
    have hrr : (r == r) = true := by simp
    go_enter Tryz.func5, Tryz.ntmps5
    go_wp2_with fail
    refine (HQ _).out.mono ?_
    rintro e w1 ⟨rfl, hB1⟩
    have HG1 := Lib.hid (HG.out.below (Nat.le_refl _) hB1)
    have HB1 := Lib.hid hB1
    clear hB1 HG HQ
    go_wp2_with fail
    refine (HR _).out.mono ?_
    rintro e w2 ⟨rfl, hB2⟩
    have HG2 := Lib.hid (HG1.out.below (Nat.le_refl _) hB2)
    have HB2 := Lib.hid (HB1.out.trans (hB2.mono HB1.out.size))
    clear hB2 HG1 HB1 HR
    go_wp2_with (first
      | (go_at_call 19; refine (HN _).out.mono ?_; rintro e w' ⟨rfl, rfl⟩)
      | (go_at_call 20; refine (HM _).out.mono ?_; rintro e w' ⟨rfl, rfl⟩)
      | (go_at_call 6; refine (HW.out _ HG2.out).mono ?_; rintro e w3 ⟨rfl, hB3⟩))
    go_ret
    exact ⟨rfl, HB2.out.trans (hB3.mono HB2.out.size)⟩
end Go.Proofs.YtdodkbpagbblmaaGreatDoor
end
