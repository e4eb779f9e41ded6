import Derived.Deep.RegionWith
import Derived.Deep.RegionHeld3
import Derived.Deep.AppendLies
import Derived.Deep.RegionLaw
import Derived.Deep.DeepCutAuto
import Derived.Test.YtdodkbpagbblmaaGreatDoorM3
import Derived.Test.YtdodkbpagbblmaaGreatDoorM4
import Derived.Test.YtdodkbpagbblmaaGreatDoorM5
import Derived.Test.YtdodkbpagbblmaaGreatDoorM6
import Derived.Test.YtdodkbpagbblmaaGreatDoorM7
section
namespace Go.Proofs.YtdodkbpagbblmaaGreatDoor
open Go Go.RowKit

theorem sameW_eq (x y : Wd) : sameW x y = (x.kind == y.kind && (x.txt.data.toList == y.txt.data.toList && (x.set == y.set && x.num == y.num))) := by
  unfold sameW
  rw [ByteArray.toList_eq, ByteArray.toList_eq]

def kSet : BS := (readS [91, 92, 93, 45, 126, 93]).getD 0#256
/-- The words of the law's own text. -/
def kWs : List (Wd × Nat) := [(⟨1, ⟨#[97, 49]⟩, 0#256, 0⟩, 0), (⟨5, ⟨#[61]⟩, 0#256, 0⟩, 2), (⟨2, ⟨#[120]⟩, 0#256, 0⟩, 3), (⟨3, ⟨#[]⟩, kSet, 0⟩, 6), (⟨4, ⟨#[]⟩, 0#256, 2⟩, 12), (⟨5, ⟨#[59]⟩, 0#256, 0⟩, 13)]
theorem k_lex : lexAt (⟨#[97, 49, 61, 34, 120, 34, 91, 92, 93, 45, 126, 93, 50, 59, 47, 47, 120]⟩ : ByteArray).data.toList 0 = (kWs, none) := by kernel_rfl
theorem k_bad : (lexAt (⟨#[98, 32, 34, 97]⟩ : ByteArray).data.toList 0).2 = some 2 := by kernel_rfl
theorem k_name : nameB (⟨#[97, 49]⟩ : ByteArray).data.toList = true := by kernel_rfl
theorem k_may : (withI kWs).all (fun x => mayB x.1) = true := by
  have h : (fun x : Wd × Int => mayB x.1) = fun x => okW x.1 && (x.1.kind == (bareW x.1).kind && (x.1.txt.data.toList == (bareW x.1).txt.data.toList && (x.1.set == (bareW x.1).set && x.1.num == (bareW x.1).num))) := by
    funext x
    unfold mayB
    rw [sameW_eq]
  rw [h]
  decide +kernel
theorem k_join : joinW (withI kWs) = [97, 49, 32, 61, 32, 34, 120, 34, 32, 91, 92, 93, 45, 126, 93, 32, 50, 32, 59] := by decide +kernel
theorem k_print : printR (withI kWs) = (⟨#[97, 49, 32, 61, 32, 34, 120, 34, 32, 91, 92, 93, 45, 126, 93, 32, 50, 32, 59]⟩, 0) := by
  unfold printR
  rw [if_pos k_may, k_join]
  rfl
end Go.Proofs.YtdodkbpagbblmaaGreatDoor
end
section
namespace Go.Proofs.YtdodkbpagbblmaaGreatDoor
open Go Go.RowKit

theorem all_any (t : ByteArray) (w : World) : Calls Tryz.prog 11 #[.string t] w fun e w' => e = .returned (.func (.func 25) #[] #[.pointer (some ⟨w.heap.size, 0, none⟩)]) ∧ w' = w.alloc (.cells #[.string t] 9) := by
  have hmf : ∀ (fn : Fn) (first cap : Array Value) (w : World), (Instr.makeFunc fn first cap).run Tryz.prog w = .ok (.func fn first cap) w := fun _ _ _ _ => rfl
  go_enter Tryz.func11, Tryz.ntmps11
  go_wp2
  go_ret
  exact ⟨rfl, rfl⟩
theorem neq_func (a : Value) (w : World) : (binOp .neq 37 (.func (.func 25) #[] #[a]) .nilFunc).run Tryz.prog w = .ok (.bool true) w := by kernel_rfl
theorem k_num (w : World) : (Op.equalIn 10000 35 (.agg #[.int .i64 4, .int .i64 12, .string ⟨#[]⟩, .int .u64 0, .int .u64 0, .int .u64 0, .int .u64 0, .int .i64 2]) (.agg #[.int .i64 4, .int .i64 12, .string ⟨#[]⟩, .int .u64 0, .int .u64 0, .int .u64 0, .int .u64 0, .int .i64 2])).run Tryz.prog w = .ok true w := by
  have h := eq_wds 9996 ⟨4, ⟨#[]⟩, 0#256, 2⟩ ⟨4, ⟨#[]⟩, 0#256, 2⟩ 12 12 w
  have e : ((4 : Int) == 4 && ((12 : Int) == 12 && ((⟨#[]⟩ : ByteArray).toList == (⟨#[]⟩ : ByteArray).toList && ((0#256 : BS) == 0#256 && (2 : Int) == 2)))) = true := by simp
  dsimp only at h
  rw [e] at h
  unfold wordV wordC at h
  obtain ⟨z0, z1, z2, z3⟩ := wz
  dsimp only at h
  rw [z0, z1, z2, z3] at h
  exact h

set_option maxRecDepth 100000 in
set_option maxHeartbeats 4000000 in
theorem works_any (w : World) (hG : GlobD w) : Calls Tryz.prog 6 #[] w fun e w' => e = .returned (.bool true) ∧ Below w.heap.size w w' := by
  have HG := Lib.hid hG
  have HE := k_num
  have HNF := neq_func
  have H1 := Lib.hid (lex_ok ⟨#[97, 49, 61, 34, 120, 34, 91, 92, 93, 45, 126, 93, 50, 59, 47, 47, 120]⟩ kWs k_lex (by decide) w hG)
  have H3 := Lib.hid (fun W hW => lex_bad ⟨#[98, 32, 34, 97]⟩ 2 k_bad (by decide) W hW)
  have H5 := Lib.hid (fun W => name_any ⟨#[97, 49]⟩ (by decide) W)
  rw [k_name] at H5
  clear hG
  go_enter Tryz.func6, Tryz.ntmps6
  go_wp2_with fail
  refine H1.out.mono ?_
  rintro e w1 ⟨v1, rfl, hown1, hB1⟩
  have hown1 : w1.ownsRow w.heap.size 35 8 v1 (5 + 1) (cellsW kWs) := hown1
  obtain ⟨g, c, rfl⟩ := ownsRow_succ hown1
  obtain ⟨a', cap', hsl, hrow⟩ := own_rowW (ws := kWs) hown1
  cases hsl
  have hG1 := HG.out.below (Nat.le_refl _) hB1
  have H2 : Hid (Calls Tryz.prog 13 #[.slice (some ⟨g, 0, none⟩) 6 c] w1 fun e w' => e = .returned (.tuple #[.string ⟨#[97, 49, 32, 61, 32, 34, 120, 34, 32, 91, 92, 93, 45, 126, 93, 32, 50, 32, 59]⟩, .int .i64 0]) ∧ Below w1.heap.size w1 w') := by
    refine Lib.hid ?_
    have h := print_any (some ⟨g, 0, none⟩) c (withI kWs) w1 hG1 hrow (by decide) (by decide +kernel)
    rw [k_print] at h
    exact h
  have hk : ∀ j, j < 48 → w1.cell? ⟨g, j, none⟩ = (cellsW kWs)[j]? := fun j hj => hown1.cellAt j (by omega)
  have HO1 := Lib.hid hown1
  have HG1 := Lib.hid hG1
  have HB1 := Lib.hid hB1
  clear hown1 hrow hG1 hB1 H1
  go_wp2_with fail
  refine H2.out.mono ?_
  rintro e w2 ⟨rfl, hB2⟩
  have HO2 := Lib.hid (own_below HO1.out hB2 (Nat.le_refl _))
  have HG2 := Lib.hid (HG1.out.below (Nat.le_refl _) hB2)
  have HB2 := Lib.hid (HB1.out.trans (hB2.mono HB1.out.size))
  clear HO1 HG1 HB1 H2 hB2 hk
  go_wp2_with fail
  refine (H3.out _ HG2.out).mono ?_
  rintro e w3 ⟨rfl, hB3⟩
  have hO3 := own_below HO2.out hB3 (Nat.le_refl _)
  have HB3 := Lib.hid (HB2.out.trans (hB3.mono HB2.out.size))
  have hk : ∀ j, j < 48 → w3.cell? ⟨g, j, none⟩ = (cellsW kWs)[j]? := fun j hj => hO3.cellAt j (by omega)
  have d0 : w3.cell? ⟨g, 32, none⟩ = some (.int .i64 4) := (hk 32 (by omega)).trans (by kernel_rfl)
  have d1 : w3.cell? ⟨g, 33, none⟩ = some (.int .i64 12) := (hk 33 (by omega)).trans (by kernel_rfl)
  have d2 : w3.cell? ⟨g, 34, none⟩ = some (.string ⟨#[]⟩) := (hk 34 (by omega)).trans (by kernel_rfl)
  have d3 : w3.cell? ⟨g, 35, none⟩ = some (.int .u64 0) := (hk 35 (by omega)).trans (by kernel_rfl)
  have d4 : w3.cell? ⟨g, 36, none⟩ = some (.int .u64 0) := (hk 36 (by omega)).trans (by kernel_rfl)
  have d5 : w3.cell? ⟨g, 37, none⟩ = some (.int .u64 0) := (hk 37 (by omega)).trans (by kernel_rfl)
  have d6 : w3.cell? ⟨g, 38, none⟩ = some (.int .u64 0) := (hk 38 (by omega)).trans (by kernel_rfl)
  have d7 : w3.cell? ⟨g, 39, none⟩ = some (.int .i64 2) := (hk 39 (by omega)).trans (by kernel_rfl)
  clear hk hO3 HO2 HG2 HB2 hB3
  go_wp2_with (first
    | (go_at_call 9; refine (num_any _ _).mono ?_; rintro e w' ⟨rfl, rfl⟩)
    | (go_at_call 11; refine (all_any _ _).mono ?_; rintro e w' ⟨rfl, rfl⟩)
    | (go_at_call 19; refine (H5.out _).mono ?_; rintro e w' ⟨rfl, rfl⟩))
  go_ret
  exact ⟨rfl, HB3.out.alloc HB3.out.size _⟩
end Go.Proofs.YtdodkbpagbblmaaGreatDoor
end
section
namespace Go.Proofs.YtdodkbpagbblmaaGreatDoor
open Go Go.RowKit

set_option maxRecDepth 100000 in
set_option maxHeartbeats 4000000 in
/-- DeflexQuotes' law, at every input. -/
theorem lawQuotes (s : ByteArray) (w : World) (hG : GlobD w) :
    Calls Tryz.prog 5 #[.string s] w fun e w' => e = .returned (.bool true) ∧ Below w.heap.size w w' := by
  have HW := Lib.hid (fun W hW => works_any W hW)
  have HG := Lib.hid hG
  clear hG
  by_cases h1 : 5000 < s.size
  · have n1 : (5000 : Int) < (s.size : Int) := by omega
    go_enter Tryz.func5, Tryz.ntmps5
    go_wp2_with (go_at_call 6; refine (HW.out _ HG.out).mono ?_; rintro e w1 ⟨rfl, hB⟩)
    go_ret
    exact ⟨rfl, hB⟩
  · have n1 : ¬ (5000 : Int) < (s.size : Int) := by omega
    have HQ := fun W => Lib.hid (quote_any s (by omega) W)
    have HR := fun W => Lib.hid (rquote_any s (by omega) W)
    have HN := fun W => Lib.hid (name_any s (by omega) W)
    have HM := fun W => Lib.hid (rname_any s (by omega) W)
    obtain ⟨T, hT⟩ : ∃ T, T = bytesStr (quoteF s.data.toList) := ⟨_, rfl⟩
    rw [← hT] at HQ HR
    obtain ⟨r, hr⟩ : ∃ r, r = nameB s.data.toList := ⟨_, rfl⟩
    rw [← hr] at HN HM
    clear hT hr h1
    have hTT : (T.toList == T.toList) = true := by simp
    have hrr : (r == r) = true := by simp
    go_enter Tryz.func5, Tryz.ntmps5
    go_wp2_with fail
    refine (HQ _).out.mono ?_
    rintro e w1 ⟨rfl, hB1⟩
    have HG1 := Lib.hid (HG.out.below (Nat.le_refl _) hB1)
    have HB1 := Lib.hid hB1
    clear hB1 HG HQ
    go_wp2_with fail
    refine (HR _).out.mono ?_
    rintro e w2 ⟨rfl, hB2⟩
    have HG2 := Lib.hid (HG1.out.below (Nat.le_refl _) hB2)
    have HB2 := Lib.hid (HB1.out.trans (hB2.mono HB1.out.size))
    clear hB2 HG1 HB1 HR
    go_wp2_with (first
      | (go_at_call 19; refine (HN _).out.mono ?_; rintro e w' ⟨rfl, rfl⟩)
      | (go_at_call 20; refine (HM _).out.mono ?_; rintro e w' ⟨rfl, rfl⟩)
      | (go_at_call 6; refine (HW.out _ HG2.out).mono ?_; rintro e w3 ⟨rfl, hB3⟩))
    go_ret
    exact ⟨rfl, HB2.out.trans (hB3.mono HB2.out.size)⟩
end Go.Proofs.YtdodkbpagbblmaaGreatDoor
end
section
namespace Go.Proofs.YtdodkbpagbblmaaGreatDoor
open Go Go.RowKit

/-- Sets as they lie behind a slice. -/
def RowB (w : World) (a : Option Addr) (l : List BS) : Prop :=
  ∀ (i : Nat) (x : BS), l[i]? = some x → ∃ b off, a = some ⟨b, off, none⟩ ∧ w.cell? ⟨b, off + i * 4, none⟩ = some (.int .u64 (wdI x 0)) ∧ w.cell? ⟨b, off + i * 4 + 1, none⟩ = some (.int .u64 (wdI x 1)) ∧ w.cell? ⟨b, off + i * 4 + 2, none⟩ = some (.int .u64 (wdI x 2)) ∧ w.cell? ⟨b, off + i * 4 + 3, none⟩ = some (.int .u64 (wdI x 3))

def unionL (l : List BS) : BS := l.foldl (fun u s => u ||| s) 0#256

theorem cset_zero : cset 0#256 = zcs := by
  have h : ∀ i, i < 4 → wdI 0#256 i = 0 := by decide
  unfold cset zcs; rw [h 0 (by omega), h 1 (by omega), h 2 (by omega), h 3 (by omega)]

end Go.Proofs.YtdodkbpagbblmaaGreatDoor
end
section
namespace Go.Proofs.YtdodkbpagbblmaaGreatDoor
open Go Go.RowKit

/-- Bytes as they lie behind a slice. -/
def RowY (w : World) (a : Option Addr) (l : List Nat) : Prop :=
  ∀ (i : Nat) (x : Nat), l[i]? = some x → ∃ b off, a = some ⟨b, off, none⟩ ∧ w.cell? ⟨b, off + i, none⟩ = some (.int .u8 x)
def SmallY (l : List Nat) : Prop := ∀ x ∈ l, x < 256
theorem RowY.below {w w' : World} {a : Option Addr} {l : List Nat} {n : Nat} (h : RowY w a l) (hB : Below n w w') (hn : w.heap.size ≤ n) : RowY w' a l := by
  intro i x hx
  obtain ⟨b, off, e, h1⟩ := h i x hx
  have := lt_of_cell h1
  exact ⟨b, off, e, (hB.cell (p := ⟨b, _, none⟩) (show b < n by omega)).trans h1⟩

/-- The set of just these bytes. -/
def ofL (l : List Nat) : BS := l.foldl withB 0#256
theorem ofL_snoc (l : List Nat) (x : Nat) : ofL (l ++ [x]) = withB (ofL l) x := by simp [ofL, List.foldl_append]

end Go.Proofs.YtdodkbpagbblmaaGreatDoor
end
section
namespace Go.Proofs.YtdodkbpagbblmaaGreatDoor
open Go Go.RowKit

/-- The bytes below k of which f says so. -/
def lowB (f : Nat → Bool) : Nat → BS
  | 0 => 0#256
  | k + 1 => if f k then withB (lowB f k) k else lowB f k

theorem lowB_bit (f : Nat → Bool) (k j : Nat) (hk : k ≤ 256) : (lowB f k).getLsbD j = (decide (j < k) && f j) := by
  induction k with
  | zero => simp [lowB]
  | succ k ih =>
    have ih := ih (by omega)
    unfold lowB
    by_cases e : j = k
    · subst e
      cases hf : f j with
      | true => simp only [if_true]; rw [withB_bit _ _ _ (by omega)]; simp
      | false => simp only [Bool.false_eq_true, if_false]; rw [ih]; simp
    · have h1 : (j < k + 1) ↔ (j < k) := by omega
      cases hf : f k with
      | true => simp only [if_true]; rw [withB_bit _ _ _ (by omega), ih]; simp [h1, show ¬ k = j from fun h => e h.symm]
      | false => simp only [Bool.false_eq_true, if_false]; rw [ih]; simp [h1]

theorem lowB_eq (f : Nat → Bool) (s : BS) (h : ∀ j, j < 256 → f j = s.getLsbD j) : lowB f 256 = s := by
  apply BitVec.eq_of_getLsbD_eq; intro j hj
  rw [lowB_bit _ _ _ (Nat.le_refl _), h j hj]; simp [hj]

set_option maxRecDepth 100000 in
set_option maxHeartbeats 4000000 in
theorem rnot_any (s : BS) (w : World) : Calls Tryz.prog 67 #[vset s] w fun e w' => e = .returned (vset (~~~s)) ∧ Below w.heap.size w w' := by
  have HF : Hid (lowB (fun j => !s.getLsbD j) 256 = ~~~s) := lowB_eq _ _ fun j hj => by rw [BitVec.getLsbD_not]; simp [hj]
  obtain ⟨ns, hns⟩ : ∃ ns, ns = ~~~s := ⟨_, rfl⟩
  rw [← hns] at HF ⊢
  clear hns
  have HL : Hid (∀ k, lowB (fun j => !s.getLsbD j) (k + 1) = if (!s.getLsbD k) = true then withB (lowB (fun j => !s.getLsbD j) k) k else lowB (fun j => !s.getLsbD j) k) := fun k => rfl
  have HZ0 : Hid (lowB (fun j => !s.getLsbD j) 0 = 0#256) := Lib.hid rfl
  generalize lowB (fun j => !s.getLsbD j) = L at HF HL HZ0
  unfold vset
  go_enter Tryz.func67, Tryz.ntmps67
  go_wp2
  go_loopw [4] (fun i wr => ∃ (k : Nat), i = .int .i64 k ∧ k ≤ 256 ∧ Hid (Blk wr w.heap.size 33 (cset s)) ∧ Hid (Blk wr (w.heap.size + 1) 33 zcs) ∧ Hid (Blk wr (w.heap.size + 1 + 1) 33 (cset (L k))) ∧ Hid (Below w.heap.size w wr))
    (fun i _ => 256 - (intOf i).toNat)
  case atStart =>
    refine ⟨0, rfl, Nat.zero_le _, ?_, ?_, ?_, ?_⟩
    · exact ((Blk.new w 33 _).alloc _).alloc _
    · have h := (Blk.new (w.alloc (.cells (cset s) 33)) 33 zcs).alloc (.cells zcs 33)
      rw [World.size_alloc] at h
      exact h
    · have h := Blk.new ((w.alloc (.cells (cset s) 33)).alloc (.cells zcs 33)) 33 zcs
      rw [World.size_alloc, World.size_alloc] at h
      rw [HZ0.out, cset_zero]
      exact h
    · exact (((Below.refl _ w).alloc (Nat.le_refl _) _).alloc (by simp) _).alloc (by simp; omega) _
  case round =>
    obtain ⟨k, rfl, hk, hA, hZ, hU, hB⟩ := hrel
    by_cases hlt : k < 256
    · have HN := Lib.hid (HL.out k)
      have HH := fun w' => Lib.hid (rhas_any s k hlt w')
      have HW := fun w' => Lib.hid (rwith_any (L k) k hlt w')
      obtain ⟨u, hu⟩ : ∃ u, u = L k := ⟨_, rfl⟩
      rw [← hu] at HN HW hU
      clear hu
      have c0 : wr.cell? ⟨w.heap.size, 0, none⟩ = some (.int .u64 (wdI s 0)) := hA.out.cell 0
      have c1 : wr.cell? ⟨w.heap.size, 1, none⟩ = some (.int .u64 (wdI s 1)) := hA.out.cell 1
      have c2 : wr.cell? ⟨w.heap.size, 2, none⟩ = some (.int .u64 (wdI s 2)) := hA.out.cell 2
      have c3 : wr.cell? ⟨w.heap.size, 3, none⟩ = some (.int .u64 (wdI s 3)) := hA.out.cell 3
      have hlt2 : w.heap.size + 1 + 1 < wr.heap.size := hU.out.lt
      cases hbit : s.getLsbD k with
      | true =>
        rw [hbit] at HN HH
        have HN2 : Hid (L (k + 1) = u) := Lib.hid HN.out
        clear hbit HN HW
        go_wp2_with fail
        refine (HH _).out.mono ?_
        rintro e w1 ⟨rfl, hB1⟩
        have hA1 := Lib.hid (hA.out.below hB1 (by omega))
        have hZ1 := Lib.hid (hZ.out.below hB1 (by omega))
        have hU1 := Lib.hid (hU.out.below hB1 (by omega))
        have hBB := Lib.hid (hB.out.trans (hB1.mono hB.out.size))
        clear hA hZ hU hB hB1 c0 c1 c2 c3 HH
        go_wp2
        go_roundw
        case rel =>
          refine ⟨k + 1, by go_num, by omega, hA1, hZ1, ?_, hBB⟩
          rw [HN2.out]; exact hU1
        case measure => simp [intOf]; omega
      | false =>
        rw [hbit] at HN HH
        have HN2 : Hid (L (k + 1) = withB u k) := Lib.hid HN.out
        clear hbit HN
        obtain ⟨u2, hu2⟩ : ∃ u2, u2 = withB u k := ⟨_, rfl⟩
        rw [← hu2] at HW HN2
        clear hu2
        go_wp2_with fail
        refine (HH _).out.mono ?_
        rintro e w1 ⟨rfl, hB1⟩
        have hA1 := Lib.hid (hA.out.below hB1 (by omega))
        have hZ1 := Lib.hid (hZ.out.below hB1 (by omega))
        have hU1 := Lib.hid (hU.out.below hB1 (by omega))
        have hBB := Lib.hid (hB.out.trans (hB1.mono hB.out.size))
        clear hA hZ hU hB hB1 c0 c1 c2 c3 HH
        have c0 : w1.cell? ⟨w.heap.size + 1 + 1, 0, none⟩ = some (.int .u64 (wdI u 0)) := hU1.out.cell 0
        have c1 : w1.cell? ⟨w.heap.size + 1 + 1, 1, none⟩ = some (.int .u64 (wdI u 1)) := hU1.out.cell 1
        have c2 : w1.cell? ⟨w.heap.size + 1 + 1, 2, none⟩ = some (.int .u64 (wdI u 2)) := hU1.out.cell 2
        have c3 : w1.cell? ⟨w.heap.size + 1 + 1, 3, none⟩ = some (.int .u64 (wdI u 3)) := hU1.out.cell 3
        have hlt3 : w.heap.size + 1 + 1 < w1.heap.size := hU1.out.lt
        go_wp2_with fail
        refine (HW _).out.mono ?_
        rintro e w2 ⟨rfl, hB2⟩
        have hA2 := Lib.hid (hA1.out.below hB2 (by omega))
        have hZ2 := Lib.hid (hZ1.out.below hB2 (by omega))
        have hU2 := Lib.hid (hU1.out.below hB2 (by omega))
        have hBC := Lib.hid (hBB.out.trans (hB2.mono hBB.out.size))
        clear hA1 hZ1 hU1 hBB hB2 c0 c1 c2 c3 HW
        have c0 : w2.cell? ⟨w.heap.size + 1 + 1, 0, none⟩ = some (.int .u64 (wdI u 0)) := hU2.out.cell 0
        have c1 : w2.cell? ⟨w.heap.size + 1 + 1, 1, none⟩ = some (.int .u64 (wdI u 1)) := hU2.out.cell 1
        have c2 : w2.cell? ⟨w.heap.size + 1 + 1, 2, none⟩ = some (.int .u64 (wdI u 2)) := hU2.out.cell 2
        have c3 : w2.cell? ⟨w.heap.size + 1 + 1, 3, none⟩ = some (.int .u64 (wdI u 3)) := hU2.out.cell 3
        have fz : ∀ i, w2.frozen? ⟨w.heap.size + 1 + 1, i, none⟩ = false := hU2.out.frozen
        unfold vset
        go_wp2
        go_roundw
        case rel =>
          refine ⟨k + 1, by go_num, by omega, ?_, ?_, ?_, ?_⟩
          · exact (((hA2.out.other (by simp; omega) _).other (by simp; omega) _).other (by simp; omega) _).other (by simp; omega) _
          · exact (((hZ2.out.other (by simp) _).other (by simp) _).other (by simp) _).other (by simp) _
          · rw [HN2.out]; exact hU2.out.set4 _ _ _ _
          · exact below_set4 hBC.out (by omega) _ _ _ _
        case measure => simp [intOf]; omega
    · obtain rfl : k = 256 := by omega
      rw [HF.out] at hU
      have c0 : wr.cell? ⟨w.heap.size + 1 + 1, 0, none⟩ = some (.int .u64 (wdI ns 0)) := Blk.cell hU.out 0
      have c1 : wr.cell? ⟨w.heap.size + 1 + 1, 1, none⟩ = some (.int .u64 (wdI ns 1)) := Blk.cell hU.out 1
      have c2 : wr.cell? ⟨w.heap.size + 1 + 1, 2, none⟩ = some (.int .u64 (wdI ns 2)) := Blk.cell hU.out 2
      have c3 : wr.cell? ⟨w.heap.size + 1 + 1, 3, none⟩ = some (.int .u64 (wdI ns 3)) := Blk.cell hU.out 3
      have z0 : wr.cell? ⟨w.heap.size + 1, 0, none⟩ = some (.int .u64 0) := Blk.cell hZ.out 0
      have z1 : wr.cell? ⟨w.heap.size + 1, 1, none⟩ = some (.int .u64 0) := Blk.cell hZ.out 1
      have z2 : wr.cell? ⟨w.heap.size + 1, 2, none⟩ = some (.int .u64 0) := Blk.cell hZ.out 2
      have z3 : wr.cell? ⟨w.heap.size + 1, 3, none⟩ = some (.int .u64 0) := Blk.cell hZ.out 3
      have fz : ∀ i, wr.frozen? ⟨w.heap.size + 1, i, none⟩ = false := Blk.frozen hZ.out
      go_wp2
      have y := Blk.set4 hZ.out (.int .u64 (wdI ns 0)) (.int .u64 (wdI ns 1)) (.int .u64 (wdI ns 2)) (.int .u64 (wdI ns 3))
      have y0 := y.cell 0
      have y1 := y.cell 1
      have y2 := y.cell 2
      have y3 := y.cell 3
      refine bodyPost_ret (v := .agg #[.int .u64 (wdI ns 0), .int .u64 (wdI ns 1), .int .u64 (wdI ns 2), .int .u64 (wdI ns 3)]) (by simp [results, Tryz.results67, go_sem, y0, y1, y2, y3]) rfl ⟨rfl, ?_⟩
      exact below_set4 hB.out (by omega) _ _ _ _
end Go.Proofs.YtdodkbpagbblmaaGreatDoor
end
section
namespace Go.Proofs.YtdodkbpagbblmaaGreatDoor
open Go Go.RowKit

/-- A set's bytes below k, rising. -/
def bytesTo (s : BS) (k : Nat) : List Nat := (List.range' 0 k).filter (fun j => s.getLsbD j)
theorem bytesTo_succ (s : BS) (k : Nat) : bytesTo s (k + 1) = if s.getLsbD k = true then bytesTo s k ++ [k] else bytesTo s k := by
  unfold bytesTo
  rw [List.range'_1_concat, List.filter_append]
  cases h : s.getLsbD k <;> simp [h]
theorem bytesTo_len (s : BS) (k : Nat) : (bytesTo s k).length ≤ k := by
  unfold bytesTo
  refine Nat.le_trans (List.length_filter_le _ _) ?_
  rw [List.length_range']
  exact Nat.le_refl _

set_option maxRecDepth 100000 in
set_option maxHeartbeats 4000000 in
theorem rbytes_any (s : BS) (w : World) :
    Calls Tryz.prog 73 #[vset s] w fun e W' => ∃ v, e = .returned v ∧ W'.ownsRow w.heap.size 5 1 v (bytesL s).length ((bytesL s).map byteV) ∧ Below w.heap.size w W' := by
  obtain ⟨i0, hi, hz0, hz1, hz2⟩ := info_parts Tryz.info5
  have HL : Hid (∀ k, bytesTo s (k + 1) = if s.getLsbD k = true then bytesTo s k ++ [k] else bytesTo s k) := bytesTo_succ s
  have HLen : Hid (∀ k, (bytesTo s k).length ≤ k) := bytesTo_len s
  have HZ0 : Hid (bytesTo s 0 = []) := Lib.hid rfl
  have HE : Hid (bytesTo s 256 = bytesL s) := Lib.hid rfl
  generalize bytesTo s = L at HL HZ0 HE HLen
  unfold vset
  go_enter Tryz.func73, Tryz.ntmps73
  go_wp2
  go_loopw [3, 4] (fun q i wr => ∃ (k : Nat), i = .int .i64 k ∧ k ≤ 256 ∧ Hid (Blk wr w.heap.size 33 (cset s)) ∧ Hid (wr.ownsRow w.heap.size 5 1 q (L k).length ((L k).map byteV)) ∧ Hid (Below w.heap.size w wr))
    (fun _ i _ => 256 - (intOf i).toNat)
  case atStart =>
    refine ⟨0, rfl, Nat.zero_le _, Blk.new w 33 _, ?_, (Below.refl _ w).alloc (Nat.le_refl _) _⟩
    rw [HZ0.out]
    exact World.ownsRow_nil _ _ _ _
  case round =>
    obtain ⟨k, rfl, hk, hA, hO, hB⟩ := hrel
    by_cases hlt : k < 256
    · have HN := Lib.hid (HL.out k)
      have hll := HLen.out k
      have HH := fun w' => Lib.hid (rhas_any s k hlt w')
      obtain ⟨l, hl⟩ : ∃ l, l = L k := ⟨_, rfl⟩
      rw [← hl] at HN hO hll
      clear hl
      have c0 : wr.cell? ⟨w.heap.size, 0, none⟩ = some (.int .u64 (wdI s 0)) := hA.out.cell 0
      have c1 : wr.cell? ⟨w.heap.size, 1, none⟩ = some (.int .u64 (wdI s 1)) := hA.out.cell 1
      have c2 : wr.cell? ⟨w.heap.size, 2, none⟩ = some (.int .u64 (wdI s 2)) := hA.out.cell 2
      have c3 : wr.cell? ⟨w.heap.size, 3, none⟩ = some (.int .u64 (wdI s 3)) := hA.out.cell 3
      cases hbit : s.getLsbD k with
      | false =>
        rw [hbit] at HN HH
        have HN2 : Hid (L (k + 1) = l) := Lib.hid HN.out
        clear hbit HN
        go_wp2_with fail
        refine (HH _).out.mono ?_
        rintro e w1 ⟨rfl, hB1⟩
        have hA1 := Lib.hid (hA.out.below hB1 hA.out.lt)
        have hO1 := Lib.hid (own_below hO.out hB1 (Nat.le_refl _))
        have hBB := Lib.hid (hB.out.trans (hB1.mono hB.out.size))
        clear hA hO hB hB1 c0 c1 c2 c3 HH
        go_wp2
        go_roundw
        case rel =>
          refine ⟨k + 1, by go_num, by omega, hA1, ?_, hBB⟩
          rw [HN2.out]; exact hO1
        case measure => simp [intOf]; omega
      | true =>
        rw [hbit] at HN HH
        have HN2 : Hid (L (k + 1) = l ++ [k]) := Lib.hid HN.out
        clear hbit HN
        have hcv : IntKind.u8.wrap (k : Int) = (k : Int) := by rw [IntKind.wrap_u8']; omega
        go_wp2_with fail
        refine (HH _).out.mono ?_
        rintro e w1 ⟨rfl, hB1⟩
        have hA1 := Lib.hid (hA.out.below hB1 hA.out.lt)
        have hO1 := Lib.hid (own_below hO.out hB1 (Nat.le_refl _))
        have hBB := Lib.hid (hB.out.trans (hB1.mono hB.out.size))
        have hsz1 : w.heap.size ≤ w1.heap.size := hBB.out.size
        clear hA hO hB hB1 c0 c1 c2 c3 HH
        go_wp2_with (at_builtin; refine wpList_append_own _ rfl _ _ 58 rfl w.heap.size 5 i0 (.int .u8 0) 1 1 Tryz.underlying58 hi hz0 hz1 hz2 rfl (by decide) _ _ _ rfl (hO1.out.alloc _) ⟨w1.heap.size, 0, none⟩ 1 1 [.int .u8 k] rfl rfl (cell_one_new _ _ _) (by simp [Value.oneCell']) (by unfold maxLen; omega) (by omega) (by simp; omega) ?_; intro v4 w4 hown4 hgrow _)
        have hf4 := own_fin (hO1.out.alloc _) ((Lib.OthersKept.refl 5 none w1).alloc _) ((Below.refl w.heap.size w1).alloc hsz1 _) hsz1 hgrow
        have hA4 := Lib.hid (blk_others hA1.out (by decide) hf4.1)
        have hB4 := Lib.hid (hBB.out.trans hf4.2)
        have hO4 := Lib.hid hown4
        clear hA1 hO1 hBB hf4 hown4 hgrow
        go_roundw
        case rel =>
          refine ⟨k + 1, by go_num, by omega, hA4, ?_, hB4⟩
          rw [HN2.out, List.length_append, List.map_append]; exact hO4
        case measure => simp [intOf]; omega
    · obtain rfl : k = 256 := by omega
      rw [HE.out] at hO
      go_wp2
      go_ret
      exact ⟨u3, rfl, hO.out, hB.out⟩
end Go.Proofs.YtdodkbpagbblmaaGreatDoor
end
section
namespace Go.Proofs.YtdodkbpagbblmaaGreatDoor
open Go Go.RowKit

theorem pc_len (x : Nat) : ∀ n, pc x n = ((List.range' 0 n).filter (fun j => x.testBit j)).length := by
  intro n
  induction n with
  | zero => rfl
  | succ n ih =>
    rw [List.range'_1_concat, List.filter_append, List.length_append, ← ih]
    show pc x n + (if x.testBit n then 1 else 0) = _
    cases h : x.testBit n <;> simp [h]

theorem cnt_len (s : BS) : cnt s = (bytesL s).length := by
  unfold cnt bytesL
  rw [pc_len]
  rfl

theorem within_eq (a b : BS) : (a &&& ~~~b == 0#256) = (a &&& b == a) := by
  rw [Bool.eq_iff_iff, beq_iff_eq, beq_iff_eq]
  constructor
  · intro h
    apply BitVec.eq_of_getLsbD_eq; intro j hj
    have h1 := congrArg (fun x => BitVec.getLsbD x j) h
    simp only [BitVec.getLsbD_and, BitVec.getLsbD_not, hj, decide_true, Bool.true_and, BitVec.getLsbD_zero] at h1
    rw [BitVec.getLsbD_and]
    cases ha : a.getLsbD j <;> cases hb : b.getLsbD j <;> simp_all
  · intro h
    apply BitVec.eq_of_getLsbD_eq; intro j hj
    have h1 := congrArg (fun x => BitVec.getLsbD x j) h
    simp only [BitVec.getLsbD_and] at h1
    simp only [BitVec.getLsbD_and, BitVec.getLsbD_not, hj, decide_true, Bool.true_and, BitVec.getLsbD_zero]
    cases ha : a.getLsbD j <;> cases hb : b.getLsbD j <;> simp_all

/-- A rising list's k-th is k at least. -/
theorem rising_ge : ∀ (l : List Nat), l.Pairwise (· < ·) → ∀ (k x : Nat), l[k]? = some x → k ≤ x := by
  intro l hl k
  induction k with
  | zero => intro x _; omega
  | succ k ih =>
    intro x hx
    have hk : k + 1 < l.length := (List.getElem?_eq_some_iff.1 hx).1
    have h1 := ih l[k] (List.getElem?_eq_getElem (by omega))
    have h2 := (List.pairwise_iff_getElem.1 hl) k (k + 1) (by omega) hk (by omega)
    have h3 : l[k + 1] = x := by
      rw [List.getElem?_eq_getElem hk] at hx; exact Option.some.inj hx
    omega
theorem bytesL_rising (s : BS) : (bytesL s).Pairwise (· < ·) := by
  unfold bytesL
  exact List.Pairwise.filter _ List.pairwise_lt_range'
theorem bytesL_ge (s : BS) (k x : Nat) (h : (bytesL s)[k]? = some x) : k ≤ x := rising_ge _ (bytesL_rising s) k x h

theorem rngs_take_nil (l : List Nat) (k : Nat) (rs : List (Nat × Nat)) (r : Nat × Nat) (h : rngs (l.take k) = rs ++ [r]) : 0 < k := by
  cases k with
  | zero => simp [rngs] at h
  | succ k => omega

/-- The document's step, written otherwise. -/
theorem rstep_other (rs : List (Nat × Nat)) (r : Nat × Nat) (x : Nat) (hr : r.2 < 256) (hx : x < 256) (hx0 : 0 < x) :
    rstep (rs ++ [r]) x = if r.2 + 1 = x then rs ++ [(r.1, x)] else rs ++ [r] ++ [(x, x)] := by
  simp only [rstep, List.getLast?_append, List.getLast?_singleton, Option.some_or]
  have : ((x + 256 - r.2) % 256 = 1) ↔ (r.2 + 1 = x) := by omega
  simp [this]
end Go.Proofs.YtdodkbpagbblmaaGreatDoor
end
section
namespace Go.Proofs.YtdodkbpagbblmaaGreatDoor
open Go Go.RowKit

/-- What an append of ranges leaves: nothing else has turned. -/
theorem own_finR {w w1 w' : World} {n₀ : Nat} {v : Value} {n : Nat} {xs : List Value} (hown : w1.ownsRow n₀ 103 2 v n xs) (hk : Lib.OthersKept 103 none w w1) (hB : Below n₀ w w1) (hn : n₀ ≤ w.heap.size) (hg : w1.grownBy w' v.ownBlock) :
    Lib.OthersKept 103 none w w' ∧ Below n₀ w w' := by
  refine ⟨hk.grown hg (fun g e => Lib.ownsRow_kind hown g e), hB.grown hg (Nat.le_trans hn hB.size) fun j ej => ?_⟩
  rcases hown.2 with ⟨rfl, _⟩ | ⟨g, cap, cur, rfl, hb, _⟩
  · cases ej
  · obtain rfl : g = j := by simpa [Value.ownBlock] using ej
    exact hb
theorem own_othersR {W W' : World} {n₀ size n : Nat} {e : TypeId} {v : Value} {xs : List Value} (h : W.ownsRow n₀ e size v n xs) (he : e ≠ 103) (hk : Lib.OthersKept 103 none W W') : W'.ownsRow n₀ e size v n xs := by
  refine ⟨h.1, ?_⟩
  rcases h.2 with h1 | ⟨g, cap, cur, h1, h2, h3, h4⟩
  · exact .inl h1
  · exact .inr ⟨g, cap, cur, h1, h2, hk g _ h3 (by simp) (fun c fz e' => by cases e'; exact he rfl), h4⟩

theorem owned_rowY {w : World} {n₀ : Nat} {v : Value} {l : List Nat} (h : w.ownsRow n₀ 5 1 v l.length (l.map byteV)) : ∃ a cap, v = .slice a l.length cap ∧ RowY w a l := by
  rcases h.2 with ⟨rfl, h0⟩ | ⟨g, cap, cur, rfl, _⟩
  · have : l = [] := List.length_eq_zero_iff.1 h0
    subst this
    exact ⟨none, 0, rfl, fun i x hx => by simp at hx⟩
  · refine ⟨_, cap, rfl, fun i x hx => ?_⟩
    have hi := (List.getElem?_eq_some_iff.1 hx).1
    refine ⟨g, 0, rfl, ?_⟩
    rw [Nat.zero_add, h.cellAt i (by omega), List.getElem?_map, hx]
    rfl

set_option maxRecDepth 100000 in
set_option maxHeartbeats 8000000 in
theorem rranges_any (s : BS) (w : World) :
    Calls Tryz.prog 74 #[vset s] w fun e W' => ∃ v, e = .returned v ∧ W'.ownsRow w.heap.size 103 2 v (rngs (bytesL s)).length (cellsR (rngs (bytesL s))) ∧ Below w.heap.size w W' := by
  obtain ⟨iR, hiR, hzR0, hzR1, hzR2⟩ := info_parts Tryz.info103
  have HBy := fun w' => Lib.hid (rbytes_any s w')
  have hlenL := length_bytesL s
  have HSm : Hid (∀ x ∈ bytesL s, x < 256) := fun x hx => ((mem_bytesL s x).1 hx).1
  have HGe : Hid (∀ k x, (bytesL s)[k]? = some x → k ≤ x) := bytesL_ge s
  generalize bytesL s = L at HBy hlenL HSm HGe ⊢
  unfold vset at HBy ⊢
  go_enter Tryz.func74, Tryz.ntmps74
  go_wp2_with fail
  refine (HBy _).out.mono ?_
  rintro e w1 ⟨v, rfl, hown1, hB1⟩
  obtain ⟨al, cl, rfl, _⟩ := owned_rowY hown1
  have hOL := Lib.hid hown1
  have hB0 := Lib.hid (((Below.refl _ w).alloc (Nat.le_refl _) (.cells (cset s) 33)).trans (hB1.mono (by simp)))
  clear hown1 hB1 HBy
  have hsz0 : w.heap.size ≤ w1.heap.size := hB0.out.size
  have hOL2 : Hid (w1.ownsRow w.heap.size 5 1 (.slice al L.length cl) L.length (L.map byteV)) := by
    refine Lib.hid ⟨hOL.out.1, ?_⟩
    rcases hOL.out.2 with h1 | ⟨g, cap, cur, h1, h2, h3⟩
    · exact .inl h1
    · exact .inr ⟨g, cap, cur, h1, by simp at h2; omega, h3⟩
  clear hOL
  go_wp2
  go_loopw [3, 5] (fun q i wr => ∃ (k : Nat), i = .int .i64 k ∧ k ≤ L.length ∧ Hid (wr.ownsRow w.heap.size 103 2 q (rngs (L.take k)).length (cellsR (rngs (L.take k)))) ∧ Hid (wr.ownsRow w.heap.size 5 1 (.slice al L.length cl) L.length (L.map byteV)) ∧ Hid (Below w.heap.size w wr))
    (fun _ i _ => L.length - (intOf i).toNat)
  case atStart => exact ⟨0, rfl, Nat.zero_le _, World.ownsRow_nil _ _ _ _, hOL2, hB0⟩
  case round =>
    clear hOL2 hB0
    obtain ⟨k, rfl, hk, hO, hL, hB⟩ := hrel
    by_cases hlt : k < L.length
    · have HX : Hid (L[k]? = some L[k]) := Lib.hid (List.getElem?_eq_getElem hlt)
      have hx256 := HSm.out L[k] (List.getElem_mem hlt)
      have hge := HGe.out k L[k] (List.getElem?_eq_getElem hlt)
      obtain ⟨x, hx⟩ : ∃ x, L[k] = x := ⟨_, rfl⟩
      rw [hx] at HX hx256 hge
      have HRS : Hid (rngs (L.take (k + 1)) = rstep (rngs (L.take k)) x) := by
        refine Lib.hid ?_
        rw [List.take_add_one, HX.out]; exact rngs_snoc _ _
      clear hx
      have hlenP : (rngs (L.take k)).length ≤ 256 := by
        have h1 := rngs_length (L.take k)
        rw [List.length_take] at h1
        omega
      have hsm : SmallR (rngs (L.take k)) := rngs_small _ (fun y hy => HSm.out y (List.mem_of_mem_take hy))
      have hpos : ∀ rs r, rngs (L.take k) = rs ++ [r] → 0 < k := fun rs r h => rngs_take_nil L k rs r h
      obtain ⟨rs, hrs⟩ : ∃ rs, rs = rngs (L.take k) := ⟨_, rfl⟩
      rw [← hrs] at hO HRS hlenP hsm hpos
      clear hrs
      obtain ⟨al', cl', hsl, hrow⟩ := owned_rowY hL.out
      obtain ⟨b, off, hab, e0⟩ := hrow k _ HX.out
      cases hsl
      subst hab
      have r0 : wr.cell? ⟨b, off + k, none⟩ = some (.int .u8 x) := e0
      obtain ⟨aq, cq, rfl, _⟩ := owned_rowR hO.out
      have hszr : w.heap.size ≤ wr.heap.size := hB.out.size
      rcases List.eq_nil_or_concat rs with rfl | ⟨rs', r, hcat⟩
      · have HS : Hid (rngs (L.take (k + 1)) = [(x, x)]) := Lib.hid (HRS.out.trans rfl)
        clear HRS hpos hrow
        simp only [List.length_nil]
        go_wp2_with fail
        go_region
        go_wp2_with fail
        go_region_law (first | (refine step_append_lies _ (by rfl) _ _ _ (by rfl) w.heap.size 103 iR _ 2 2 Tryz.underlying100 hiR hzR0 hzR1 hzR2 rfl (by decide) _ _ _ (by rfl) (hO.out.alloc (.cells #[.int .u8 x, .int .u8 x] 103)) ⟨wr.heap.size, 0, none⟩ 1 1 [.int .u8 x, .int .u8 x] (by rfl) (by rfl) (World.news_of_block (cs := #[.int .u8 x, .int .u8 x]) (Blk.new wr 103 _)) (by simp [Value.oneCell']) (by omega) (by unfold maxLen; simp) (by simp) (by simp; omega) _ rfl ?_; intro g cap w1 hown1 hgrow _ _))
        all_goals
          have hf := own_finR (w := wr) (w1 := (wr.alloc (.cells #[.int .u8 x, .int .u8 x] 103)).drew.drew) (hO.out.alloc _) ((Lib.OthersKept.refl 103 none wr).alloc _).drew.drew ((Below.refl w.heap.size wr).alloc hszr _).drew.drew hszr hgrow
          have hL2 := Lib.hid (own_othersR hL.out (by decide) hf.1)
          have hB2 := Lib.hid (hB.out.trans hf.2)
          have hO2 := Lib.hid hown1
          clear hown1 hgrow hf hL hB hO e0 r0
          go_wp2
          go_roundw
          case rel => exact ⟨k + 1, by go_num, by omega, by rw [HS.out]; exact hO2, hL2, hB2⟩
          case measure => simp [intOf]; omega
      · rw [List.concat_eq_append] at hcat
        subst hcat
        obtain ⟨f, t⟩ := r
        have hk0 : 0 < k := hpos rs' (f, t) rfl
        have ht : t < 256 := (hsm (f, t) (by simp)).2
        have HS : Hid (rngs (L.take (k + 1)) = if t + 1 = x then rs' ++ [(f, x)] else rs' ++ [(f, t)] ++ [(x, x)]) := by
          refine Lib.hid (HRS.out.trans ?_)
          exact rstep_other rs' (f, t) x ht hx256 (by omega)
        have hrl : (rs' ++ [(f, t)]).length = rs'.length + 1 := by simp
        rw [hrl] at hO hlenP ⊢
        obtain ⟨g, cap, hsl⟩ := ownsRow_succ hO.out
        cases hsl
        have hc : wr.cell? ⟨g, rs'.length * 2 + 1, none⟩ = some (.int .u8 t) := (hO.out.cellAt (rs'.length * 2 + 1) (by omega)).trans (cellsR_last rs' (f, t))
        clear HRS hpos hsm
        have hw1 : IntKind.i64.wrap (t : Int) = (t : Int) := IntWalk.i64_in _ (by omega)
        have hw2 : IntKind.i64.wrap ((t : Int) + 1) = (t : Int) + 1 := IntWalk.i64_in _ (by omega)
        have hw3 : IntKind.i64.wrap (x : Int) = (x : Int) := IntWalk.i64_in _ (by omega)
        by_cases heq : t + 1 = x
        · have he1 : ((t : Int) + 1 == (x : Int)) = true := by simp; omega
          go_wp2_with fail
          go_region
          have hfg := hO.out.frozenAt (rs'.length * 2 + 1)
          rw [if_pos heq] at HS
          obtain ⟨hst, hgr⟩ := hO.out.stored (rs'.length * 2 + 1) (.int .u8 x)
          have hf := own_finR (w := wr) (w1 := wr) hO.out (Lib.OthersKept.refl 103 none wr) (Below.refl _ wr) hszr hgr
          have hL2 := Lib.hid (own_othersR hL.out (by decide) hf.1)
          have hB2 := Lib.hid (hB.out.trans hf.2)
          have hO2 := Lib.hid hst
          have hkk : (rs' ++ [(f, x)]).length = rs'.length + 1 := by simp
          have HKK := Lib.hid hkk
          clear hst hgr hf hL hB hkk hO e0
          go_wp2
          go_roundw
          case rel =>
            refine ⟨k + 1, by go_num, by omega, ?_, hL2, Lib.hid hB2.out.drew⟩
            rw [HS.out, HKK.out]
            have h := hO2.out
            rw [cellsR_set rs' (f, t) x] at h
            exact h
          case measure => simp [intOf]; omega
        · have he1 : ((t : Int) + 1 == (x : Int)) = false := by simp; omega
          go_wp2_with fail
          go_region
          rw [if_neg heq] at HS
          have hkk : (rs' ++ [(f, t)] ++ [(x, x)]).length = rs'.length + 1 + 1 := by simp
          have HKK := Lib.hid hkk
          clear hkk
          go_wp2_with fail
          go_region_law (first | (refine step_append_lies _ (by rfl) _ _ _ (by rfl) w.heap.size 103 iR _ 2 2 Tryz.underlying100 hiR hzR0 hzR1 hzR2 rfl (by decide) _ _ _ (by rfl) (hO.out.alloc (.cells #[.int .u8 x, .int .u8 x] 103)) ⟨wr.heap.size, 0, none⟩ 1 1 [.int .u8 x, .int .u8 x] (by rfl) (by rfl) (World.news_of_block (cs := #[.int .u8 x, .int .u8 x]) (Blk.new wr 103 _)) (by simp [Value.oneCell']) (by omega) (by unfold maxLen; omega) (by omega) (by simp; omega) _ rfl ?_; intro g2 cap2 w1 hown1 hgrow _ _))
          all_goals
            have hf := own_finR (w := wr) (w1 := (wr.alloc (.cells #[.int .u8 x, .int .u8 x] 103)).drew.drew) (hO.out.alloc _) ((Lib.OthersKept.refl 103 none wr).alloc _).drew.drew ((Below.refl w.heap.size wr).alloc hszr _).drew.drew hszr hgrow
            have hL2 := Lib.hid (own_othersR hL.out (by decide) hf.1)
            have hB2 := Lib.hid (hB.out.trans hf.2)
            have hO2 := Lib.hid hown1
            clear hown1 hgrow hf hL hB hO e0 r0 hc
            go_wp2
            go_roundw
            case rel =>
              refine ⟨k + 1, by go_num, by omega, ?_, hL2, hB2⟩
              rw [HS.out, HKK.out, cellsR_snoc]
              exact hO2.out
            case measure => simp [intOf]; omega
    · obtain rfl : k = L.length := by omega
      rw [List.take_length] at hO
      go_wp2
      go_ret
      exact ⟨u3, rfl, hO.out, hB.out⟩
end Go.Proofs.YtdodkbpagbblmaaGreatDoor
end
section
namespace Go.Proofs.YtdodkbpagbblmaaGreatDoor
open Go Go.RowKit

/-- A set's ranges go up. -/
theorem rngs_le (s : BS) : ∀ k, k ≤ (bytesL s).length → ∀ r ∈ rngs ((bytesL s).take k), r.1 ≤ r.2 := by
  intro k
  induction k with
  | zero => intro _ r hr; simp [rngs] at hr
  | succ k ih =>
    intro hk r hr
    have hx : (bytesL s)[k]? = some (bytesL s)[k] := List.getElem?_eq_getElem (by omega)
    have hge := bytesL_ge s k _ hx
    have hlt := ((mem_bytesL s _).1 (List.mem_of_getElem? hx)).1
    obtain ⟨x, hx2⟩ : ∃ x, (bytesL s)[k] = x := ⟨_, rfl⟩
    rw [hx2] at hx hge hlt
    rw [List.take_add_one, hx] at hr
    have e : rngs (List.take k (bytesL s) ++ (some x).toList) = rstep (rngs ((bytesL s).take k)) x := rngs_snoc _ _
    rw [e] at hr
    have hsm : SmallR (rngs ((bytesL s).take k)) := rngs_small _ (fun y hy => ((mem_bytesL s y).1 (List.mem_of_mem_take hy)).1)
    rcases List.eq_nil_or_concat (rngs ((bytesL s).take k)) with h0 | ⟨rs', q, hcat⟩
    · rw [h0] at hr
      simp [rstep] at hr
      subst hr
      exact Nat.le_refl _
    · rw [List.concat_eq_append] at hcat
      have hk0 := rngs_take_nil _ k rs' q hcat
      have hq := ih (by omega) q (by rw [hcat]; simp)
      have hq2 := (hsm q (by rw [hcat]; simp)).2
      rw [hcat, rstep_other rs' q x hq2 hlt (by omega)] at hr
      split at hr
      · simp at hr
        rcases hr with hr | rfl
        · exact ih (by omega) r (by rw [hcat]; simp [hr])
        · simp; omega
      · simp at hr
        rcases hr with hr | rfl | rfl
        · exact ih (by omega) r (by rw [hcat]; simp [hr])
        · exact hq
        · exact Nat.le_refl _
theorem rngs_up (s : BS) : ∀ r ∈ rngs (bytesL s), r.1 ≤ r.2 := by
  have h := rngs_le s (bytesL s).length (Nat.le_refl _)
  rw [List.take_length] at h
  exact h

set_option maxRecDepth 100000 in
set_option maxHeartbeats 8000000 in
theorem rtext_any (s : BS) (w : World) :
    Calls Tryz.prog 51 #[vset s] w fun e w' => e = .returned (.string (bytesStr (textS s))) ∧ Below w.heap.size w w' := by
  have HTX : Hid (textS s = if 128 < (bytesL s).length then [91, 94] ++ rangesT (rngs (bytesL (~~~s))) ++ [93] else [91] ++ rangesT (rngs (bytesL s)) ++ [93]) := by
    refine Lib.hid ?_
    unfold textS; rw [cnt_len]
  have K1 := rbytes_any s
  have K2 := rnot_any s
  obtain ⟨ns, hns⟩ : ∃ ns, ns = ~~~s := ⟨_, rfl⟩
  rw [← hns] at K2 HTX
  clear hns
  obtain ⟨N, hN⟩ : ∃ N, N = (bytesL s).length := ⟨_, rfl⟩
  rw [← hN] at K1 HTX
  obtain ⟨TX, hTX⟩ : ∃ TX, TX = textS s := ⟨_, rfl⟩
  rw [← hTX] at HTX ⊢
  clear hTX
  unfold vset at K1 K2
  have H1 := fun w' => Lib.hid (K1 w')
  have H2 := fun w' => Lib.hid (K2 w')
  clear K1 K2
  have hzN : (bytesL s).length = N := hN.symm
  have HY : ∀ {W : World} {b : Nat} {v : Value}, W.ownsRow b 5 1 v N ((bytesL s).map byteV) → ∃ a c, v = .slice a N c := by
    intro W b v h
    rw [hN] at h ⊢
    obtain ⟨a, c, e, _⟩ := owned_rowY h
    exact ⟨a, c, e⟩
  have HYY := @HY
  clear HY hN hzN
  unfold vset
  go_enter Tryz.func51, Tryz.ntmps51
  go_wp2_with fail
  refine (H1 _).out.mono ?_
  rintro e w1 ⟨v, rfl, hown, hB1⟩
  obtain ⟨a, c, rfl⟩ := HYY hown
  have hA1 := Lib.hid ((Blk.new w 33 (cset s)).below hB1 (by simp))
  have hBB := Lib.hid (((Below.refl _ w).alloc (Nat.le_refl _) (.cells (cset s) 33)).trans (hB1.mono (by simp)))
  clear hown hB1 H1 HYY
  have c0 : w1.cell? ⟨w.heap.size, 0, none⟩ = some (.int .u64 (wdI s 0)) := hA1.out.cell 0
  have c1 : w1.cell? ⟨w.heap.size, 1, none⟩ = some (.int .u64 (wdI s 1)) := hA1.out.cell 1
  have c2 : w1.cell? ⟨w.heap.size, 2, none⟩ = some (.int .u64 (wdI s 2)) := hA1.out.cell 2
  have c3 : w1.cell? ⟨w.heap.size, 3, none⟩ = some (.int .u64 (wdI s 3)) := hA1.out.cell 3
  go_upto_if 9 with fail
  go_cut [3] (fun s3 wx => ∃ (su : BS) (hd : List Nat), s3 = .string (bytesStr hd) ∧ hd.length ≤ 2 ∧ Hid (TX = hd ++ rangesT (rngs (bytesL su)) ++ [93]) ∧ Hid (Blk wx w.heap.size 33 (cset su)) ∧ Hid (Below w.heap.size w wx))
  case first =>
    by_cases hbig : 128 < N
    · have hb' : (128 : Int) < N := by omega
      have HT2 : Hid (TX = [91, 94] ++ rangesT (rngs (bytesL ns)) ++ [93]) := Lib.hid (by rw [HTX.out, if_pos hbig])
      clear HTX
      go_wp2_with fail
      refine (H2 _).out.mono ?_
      rintro e w2 ⟨rfl, hB2⟩
      have hA2 := Lib.hid (hA1.out.below hB2 hA1.out.lt)
      have hBC := Lib.hid (hBB.out.trans (hB2.mono hBB.out.size))
      clear hA1 hBB hB2 H2 c0 c1 c2 c3
      have c0 : w2.cell? ⟨w.heap.size, 0, none⟩ = some (.int .u64 (wdI s 0)) := hA2.out.cell 0
      have c1 : w2.cell? ⟨w.heap.size, 1, none⟩ = some (.int .u64 (wdI s 1)) := hA2.out.cell 1
      have c2 : w2.cell? ⟨w.heap.size, 2, none⟩ = some (.int .u64 (wdI s 2)) := hA2.out.cell 2
      have c3 : w2.cell? ⟨w.heap.size, 3, none⟩ = some (.int .u64 (wdI s 3)) := hA2.out.cell 3
      have fz : ∀ i, w2.frozen? ⟨w.heap.size, i, none⟩ = false := hA2.out.frozen
      go_wp2_with fail
      go_meet
      exact ⟨ns, [91, 94], rfl, by simp, HT2, hA2.out.set4 _ _ _ _, below_set4 hBC.out (Nat.le_refl _) _ _ _ _⟩
    · have hb' : ¬ (128 : Int) < N := by omega
      have HT2 : Hid (TX = [91] ++ rangesT (rngs (bytesL s)) ++ [93]) := Lib.hid (by rw [HTX.out, if_neg hbig])
      clear HTX
      go_wp2_with fail
      go_meet
      exact ⟨s, [91], rfl, by simp, HT2, hA1, hBB⟩
  case rest =>
    obtain ⟨wb, rfl⟩ : ∃ wb : World, wb = wc := ⟨_, rfl⟩
    obtain ⟨su, hd, rfl, hhd, HT2, hA, hB⟩ := hcut
    clear hA1 hBB H2 HTX c0 c1 c2 c3
    have K3 := rranges_any su
    have hrl := rngs_length (bytesL su)
    have hbl := length_bytesL su
    have hsm := rngs_small (bytesL su) (fun x hx => ((mem_bytesL su x).1 hx).1)
    have hup := rngs_up su
    obtain ⟨R, hR⟩ : ∃ R, R = rngs (bytesL su) := ⟨_, rfl⟩
    rw [← hR] at K3 hrl hsm hup HT2
    have hR2 : R.length ≤ 256 := by omega
    clear hR hrl hbl
    have HSM := Lib.hid hsm
    have HUP := Lib.hid hup
    clear hsm hup
    unfold vset at K3
    have H3 := fun w' => Lib.hid (K3 w')
    clear K3
    have c0 : wb.cell? ⟨w.heap.size, 0, none⟩ = some (.int .u64 (wdI su 0)) := hA.out.cell 0
    have c1 : wb.cell? ⟨w.heap.size, 1, none⟩ = some (.int .u64 (wdI su 1)) := hA.out.cell 1
    have c2 : wb.cell? ⟨w.heap.size, 2, none⟩ = some (.int .u64 (wdI su 2)) := hA.out.cell 2
    have c3 : wb.cell? ⟨w.heap.size, 3, none⟩ = some (.int .u64 (wdI su 3)) := hA.out.cell 3
    go_wp2_with fail
    refine (H3 _).out.mono ?_
    rintro e w5 ⟨v, rfl, hown, hB5⟩
    obtain ⟨ar, cr, rfl, hrow⟩ := owned_rowR hown
    have HR := Lib.hid hrow
    have HB := Lib.hid (hB.out.trans (hB5.mono hB.out.size))
    clear hown hrow hB5 hA hB H3 c0 c1 c2 c3
    have hO0 := bytesStr_size hd
    obtain ⟨O0, hO0e⟩ : ∃ O0, O0 = bytesStr hd := ⟨_, rfl⟩
    have hO0s : O0.size ≤ 2 := by rw [hO0e, hO0]; exact hhd
    have HO0 := Lib.hid hO0e
    rw [← hO0e]
    clear hO0e hO0
    go_wp2
    go_loopw [3, 5] (fun q i wr => ∃ (k : Nat) (O : ByteArray), i = .int .i64 k ∧ q = .string O ∧ k ≤ R.length ∧ O.size ≤ 9 * k + 2 ∧ Hid (O = bytesStr (hd ++ rangesT (R.take k))) ∧ Hid (Below w5.heap.size w5 wr))
      (fun _ i _ => R.length - (intOf i).toNat)
    case atStart => exact ⟨0, O0, rfl, rfl, Nat.zero_le _, by omega, by refine Lib.hid ?_; rw [HO0.out]; simp [rangesT], Below.refl _ _⟩
    case round =>
      clear HO0 hO0s
      obtain ⟨k, O, rfl, rfl, hk, hOs, hO, hW⟩ := hrel
      by_cases hlt : k < R.length
      · have HX : Hid (R[k]? = some R[k]) := Lib.hid (List.getElem?_eq_getElem hlt)
        obtain ⟨x1, x2⟩ := HSM.out R[k] (List.getElem_mem hlt)
        have x3 := HUP.out R[k] (List.getElem_mem hlt)
        obtain ⟨x, hx⟩ : ∃ x, R[k] = x := ⟨_, rfl⟩
        rw [hx] at HX x1 x2 x3
        clear hx
        obtain ⟨f, t⟩ := x
        dsimp only at x1 x2 x3
        have HL : Hid (∀ X, X = rangeT (f, t) → O ++ bytesStr X = bytesStr (hd ++ rangesT (R.take (k + 1)))) := by
          refine Lib.hid fun X hX => ?_
          rw [hO.out, hX, bytesStr_append, List.take_add_one, HX.out]
          show bytesStr (hd ++ rangesT (R.take k) ++ rangeT (f, t)) = bytesStr (hd ++ rangesT (R.take k ++ [(f, t)]))
          rw [rangesT_snoc, List.append_assoc]
        obtain ⟨b', off, hab, e1, e2⟩ := HR.out k _ HX.out
        have r1 : wr.cell? ⟨b', off + k * 2, none⟩ = some (.int .u8 f) := (hW.out.cell (p := ⟨b', _, none⟩) (lt_of_cell e1)).trans e1
        have r2 : wr.cell? ⟨b', off + k * 2 + 1, none⟩ = some (.int .u8 t) := (hW.out.cell (p := ⟨b', _, none⟩) (lt_of_cell e1)).trans e2
        subst hab
        have O1 := fun w' => Lib.hid (rone_any f x1 w')
        have O2 := fun w' => Lib.hid (rone_any t x2 w')
        have s1 := bytesStr_size (byteT f)
        have s2 := bytesStr_size (byteT t)
        have l1 := byteT_len f
        have l2 := byteT_len t
        obtain ⟨F1, hF1⟩ : ∃ F1, F1 = bytesStr (byteT f) := ⟨_, rfl⟩
        obtain ⟨F2, hF2⟩ : ∃ F2, F2 = bytesStr (byteT t) := ⟨_, rfl⟩
        rw [← hF1] at O1 s1
        rw [← hF2] at O2 s2
        have hF1s : F1.size ≤ 4 := by omega
        have hF2s : F2.size ≤ 4 := by omega
        have HF1 := Lib.hid hF1
        have HF2 := Lib.hid hF2
        clear hF1 hF2 s1 s2 l1 l2
        go_wp2_with fail
        refine (O1 _).out.mono ?_
        rintro e w6 ⟨rfl, hB6⟩
        have q1 : w6.cell? ⟨b', off + k * 2, none⟩ = some (.int .u8 f) := (hB6.cell (p := ⟨b', _, none⟩) (lt_of_cell r1)).trans r1
        have q2 : w6.cell? ⟨b', off + k * 2 + 1, none⟩ = some (.int .u8 t) := (hB6.cell (p := ⟨b', _, none⟩) (lt_of_cell r1)).trans r2
        have hW6 := Lib.hid (hW.out.trans (hB6.mono hW.out.size))
        clear hB6 hW r1 r2 O1
        have hw1 : IntKind.i64.wrap (t : Int) = (t : Int) := IntWalk.i64_in _ (by omega)
        have hw2 : IntKind.i64.wrap (f : Int) = (f : Int) := IntWalk.i64_in _ (by omega)
        have hw3 : IntKind.i64.wrap ((t : Int) - (f : Int)) = (t : Int) - (f : Int) := IntWalk.i64_in _ (by omega)
        have hOb : O.size ≤ 3000 := by omega
        by_cases heq : f = t
        · subst heq
          have HLL : Hid (O ++ F1 = bytesStr (hd ++ rangesT (R.take (k + 1)))) := by
            refine Lib.hid ?_
            rw [HF1.out]
            refine HL.out _ ?_
            unfold rangeT; simp
          clear HL
          go_wp2_with fail
          go_region
          go_wp2_with fail
          go_region
          go_wp2
          go_roundw
          case rel => exact ⟨k + 1, O ++ F1, by go_num, rfl, by omega, by rw [ByteArray.size_append]; omega, HLL, hW6.out.drew.drew⟩
          case measure => simp [intOf]; omega
        · by_cases hgt : 1 < t - f
          · have k1 : decide ((1 : Int) < (t : Int) - (f : Int)) = true := by simp; omega
            have k2 : ((t : Int) != (f : Int)) = true := by simp; omega
            have HLL : Hid (((O ++ F1) ++ ⟨#[45]⟩) ++ F2 = bytesStr (hd ++ rangesT (R.take (k + 1)))) := by
              refine Lib.hid ?_
              rw [HF1.out, HF2.out, ba_assoc, ba_assoc]
              rw [show (⟨#[45]⟩ : ByteArray) = bytesStr [45] from rfl, bytesStr_append, bytesStr_append]
              refine HL.out _ ?_
              unfold rangeT
              rw [if_neg heq, if_pos (by simp; omega)]
              simp
            have hz : (⟨#[45]⟩ : ByteArray).size = 1 := rfl
            clear HL
            go_wp2_with fail
            go_region
            go_wp2_with fail
            go_region
            go_wp2_with fail
            refine (O2 _).out.mono ?_
            rintro e w7 ⟨rfl, hB7⟩
            have hW7 := Lib.hid (hW6.out.drew.drew.trans (hB7.mono hW6.out.size))
            clear hB7 hW6 q1 q2 O2
            go_wp2
            go_roundw
            case rel => exact ⟨k + 1, _, by go_num, rfl, by omega, by rw [ByteArray.size_append, ByteArray.size_append, ByteArray.size_append, hz]; omega, HLL, hW7⟩
            case measure => simp [intOf]; omega
          · have k1 : decide ((1 : Int) < (t : Int) - (f : Int)) = false := by simp; omega
            have k2 : ((t : Int) != (f : Int)) = true := by simp; omega
            have HLL : Hid ((O ++ F1) ++ F2 = bytesStr (hd ++ rangesT (R.take (k + 1)))) := by
              refine Lib.hid ?_
              rw [HF1.out, HF2.out, ba_assoc, bytesStr_append]
              refine HL.out _ ?_
              unfold rangeT
              rw [if_neg heq, if_neg (by simp; omega)]
            clear HL
            go_wp2_with fail
            go_region
            go_wp2_with fail
            go_region
            go_wp2_with fail
            refine (O2 _).out.mono ?_
            rintro e w7 ⟨rfl, hB7⟩
            have hW7 := Lib.hid (hW6.out.drew.drew.trans (hB7.mono hW6.out.size))
            clear hB7 hW6 q1 q2 O2
            go_wp2
            go_roundw
            case rel => exact ⟨k + 1, _, by go_num, rfl, by omega, by rw [ByteArray.size_append, ByteArray.size_append]; omega, HLL, hW7⟩
            case measure => simp [intOf]; omega
      · obtain rfl : k = R.length := by omega
        rw [List.take_length] at hO
        have HE : Hid (O ++ bytesStr [93] = bytesStr TX) := by
          refine Lib.hid ?_
          rw [hO.out, bytesStr_append, HT2.out]
        have hz : (bytesStr [93]).size = 1 := bytesStr_size [93]
        go_wp2
        go_ret
        exact ⟨by rw [← HE.out]; rfl, HB.out.trans (hW.out.mono HB.out.size)⟩
end Go.Proofs.YtdodkbpagbblmaaGreatDoor
end
section
namespace Go.Proofs.YtdodkbpagbblmaaGreatDoor
open Go Go.RowKit

theorem may1 (tx : ByteArray) (st : BS) (nm : Int) : mayB ⟨1, tx, st, nm⟩ = ((nm == 0) && ((st == 0#256) && nameB tx.data.toList)) := by
  have h : mayB ⟨1, tx, st, nm⟩ = (nameB tx.data.toList && ((1 : Int) == 1 && (tx.toList == tx.toList && (st == 0#256 && nm == 0)))) := rfl
  rw [h]
  cases nameB tx.data.toList <;> cases (st == 0#256) <;> cases (nm == 0) <;> simp
theorem may2 (tx : ByteArray) (st : BS) (nm : Int) : mayB ⟨2, tx, st, nm⟩ = ((nm == 0) && (st == 0#256)) := by
  have h : mayB ⟨2, tx, st, nm⟩ = (true && ((2 : Int) == 2 && (tx.toList == tx.toList && (st == 0#256 && nm == 0)))) := rfl
  rw [h]
  cases (st == 0#256) <;> cases (nm == 0) <;> simp
theorem map_back (l : List UInt8) : (l.map UInt8.toNat).map UInt8.ofNat = l := by
  induction l with
  | nil => rfl
  | cons c l ih => rw [List.map_cons, List.map_cons, ih]; simp
theorem empty_is (tx : ByteArray) : (tx.toList == (⟨#[]⟩ : ByteArray).toList) = tx.toList.isEmpty := by
  have h : (⟨#[]⟩ : ByteArray).toList = [] := List.isEmpty_iff.1 (isEmpty_of ⟨#[]⟩ rfl)
  rw [h]
  cases tx.toList <;> rfl
theorem may3 (tx : ByteArray) (st : BS) (nm : Int) : mayB ⟨3, tx, st, nm⟩ = ((nm == 0) && tx.toList.isEmpty) := by
  have h : mayB ⟨3, tx, st, nm⟩ = (true && ((3 : Int) == 3 && (tx.toList == (⟨#[]⟩ : ByteArray).toList && (st == st && nm == 0)))) := rfl
  rw [h, empty_is]
  cases tx.toList.isEmpty <;> cases (nm == 0) <;> simp
theorem may4 (tx : ByteArray) (st : BS) (nm : Int) : mayB ⟨4, tx, st, nm⟩ = (tx.toList.isEmpty && ((st == 0#256) && (decide (0 ≤ nm) && decide (nm ≤ 999999999)))) := by
  have h : mayB ⟨4, tx, st, nm⟩ = (decide (0 ≤ nm ∧ nm ≤ 999999999) && ((4 : Int) == 4 && (tx.toList == (⟨#[]⟩ : ByteArray).toList && (st == 0#256 && nm == nm)))) := rfl
  rw [h, Bool.decide_and, empty_is]
  cases tx.toList.isEmpty <;> cases (st == 0#256) <;> cases decide (0 ≤ nm) <;> cases decide (nm ≤ 999999999) <;> simp
theorem may5 (tx : ByteArray) (st : BS) (nm : Int) : mayB ⟨5, tx, st, nm⟩ = ((nm == 0) && ((st == 0#256) && signT tx.data.toList)) := by
  have h : mayB ⟨5, tx, st, nm⟩ = (signT tx.data.toList && ((5 : Int) == 5 && (tx.toList == tx.toList && (st == 0#256 && nm == 0)))) := rfl
  rw [h]
  cases signT tx.data.toList <;> cases (st == 0#256) <;> cases (nm == 0) <;> simp
theorem may0 (kd : Int) (tx : ByteArray) (st : BS) (nm : Int) (h1 : kd ≠ 1) (h2 : kd ≠ 2) (h3 : kd ≠ 3) (h4 : kd ≠ 4) (h5 : kd ≠ 5) : mayB ⟨kd, tx, st, nm⟩ = false := by
  unfold mayB okW
  rw [if_neg h1, if_neg h2, if_neg h3, if_neg h4, if_neg h5]
  rfl
theorem signT_one (s : ByteArray) (h : s.size = 1) : signT s.data.toList = sgnB (s[0]'(by omega)).toNat := by
  have h1 := drop_at s 0 (by omega)
  rw [List.drop_zero] at h1
  have h2 : s.data.toList.drop (0 + 1) = [] := List.drop_eq_nil_of_le (by rw [← Lib.size_eq]; omega)
  rw [h1, h2]
  rfl
theorem signT_not (s : ByteArray) (h : s.size ≠ 1) : signT s.data.toList = false := by
  rw [Lib.size_eq] at h
  match hl : s.data.toList with
  | [] => rfl
  | [c] => rw [hl] at h; exact absurd rfl h
  | _ :: _ :: _ => rfl
end Go.Proofs.YtdodkbpagbblmaaGreatDoor
end
section
namespace Go.Proofs.YtdodkbpagbblmaaGreatDoor
open Go Go.RowKit

/-- The signs. -/
def sgnT : ByteArray := ⟨#[59, 46, 61, 44, 40, 41, 123, 125, 62, 63, 42, 43]⟩
theorem sgn_in : ∀ b : Fin 256, sgnB b.val = true → ∃ m : Fin 12, (sgnT[m.val]'m.isLt).toNat = b.val := by decide +kernel
theorem sgn_out : ∀ (b : Fin 256) (m : Fin 12), (sgnT[m.val]'m.isLt).toNat = b.val → sgnB b.val = true := by decide +kernel

set_option maxRecDepth 100000 in
set_option maxHeartbeats 4000000 in
theorem rin_any (b : Nat) (hb : b < 256) (w : World) : Calls Tryz.prog 48 #[.int .u8 b, .string ⟨#[59, 46, 61, 44, 40, 41, 123, 125, 62, 63, 42, 43]⟩] w fun e w' => e = .returned (.bool (sgnB b)) ∧ w = w' := by
  have HI := Lib.hid (sgn_in ⟨b, hb⟩)
  have HO := fun m => Lib.hid (sgn_out ⟨b, hb⟩ m)
  have e0 : (⟨#[59, 46, 61, 44, 40, 41, 123, 125, 62, 63, 42, 43]⟩ : ByteArray) = sgnT := rfl
  have hsz : sgnT.size = 12 := rfl
  rw [e0]
  obtain ⟨s, hs⟩ : ∃ s, s = sgnT := ⟨_, rfl⟩
  dsimp only at HI HO
  have HI2 : Hid (sgnB b = true → ∃ m : Nat, ∃ h : m < s.size, (s[m]'h).toNat = b) := Lib.hid (by subst hs; intro h; obtain ⟨m, hm⟩ := HI.out h; exact ⟨m.val, m.isLt, hm⟩)
  have HO2 : Hid (∀ (m : Nat) (h : m < s.size), (s[m]'h).toNat = b → sgnB b = true) := Lib.hid (by subst hs; intro m h hm; exact (HO ⟨m, h⟩).out hm)
  have hsz2 : s.size = 12 := by rw [hs]; exact hsz
  rw [← hs]
  clear HI HO e0 hs hsz
  go_enter Tryz.func48, Tryz.ntmps48
  go_wp2
  go_loopw [5] (fun i wr => ∃ m : Nat, i = .int .i64 m ∧ m ≤ 12 ∧ Hid (∀ k, (h : k < s.size) → k < m → (s[k]'h).toNat ≠ b) ∧ wr = w)
    (fun i _ => 12 - (intOf i).toNat)
  case atStart => exact ⟨0, rfl, Nat.zero_le _, Lib.hid (fun k _ h => absurd h (by omega)), rfl⟩
  case round =>
    obtain ⟨m, rfl, hm, hI, rfl⟩ := hrel
    by_cases hlt : m < 12
    · have hms : m < s.size := by omega
      obtain ⟨y, hy⟩ : ∃ y, y = (s[m]'hms).toNat := ⟨_, rfl⟩
      have hi : ∀ h, (s[m]'h).toNat = y := fun h => hy.symm
      by_cases hyb : y = b
      · have HS : Hid (sgnB b = true) := Lib.hid (HO2.out m hms (by rw [← hy]; exact hyb))
        have d1 : ((y : Int) == (b : Int)) = true := by rw [beq_iff_eq]; omega
        clear hI hy HI2 HO2
        go_wp2
        go_ret
        simp [HS.out]
      · have d1 : ((y : Int) == (b : Int)) = false := by rw [beq_eq_false_iff_ne]; omega
        have hI2 : Hid (∀ k, (h : k < s.size) → k < m + 1 → (s[k]'h).toNat ≠ b) := Lib.hid fun k h hk => by
          by_cases e : k = m
          · subst e; rw [← hy]; exact hyb
          · exact hI.out k h (by omega)
        clear hI hy
        go_wp2
        go_roundw
        case rel => exact ⟨m + 1, by go_num, by omega, hI2, by first | rfl | trivial⟩
        case measure => simp [intOf]; omega
    · obtain rfl : m = 12 := by omega
      have HS : Hid (sgnB b = false) := Lib.hid (by
        cases h : sgnB b with
        | false => rfl
        | true => obtain ⟨k, hk, e⟩ := HI2.out h; exact absurd e (hI.out k hk (by omega)))
      clear hI HI2 HO2
      go_wp2
      go_ret
      simp [HS.out]

set_option maxRecDepth 100000 in
set_option maxHeartbeats 8000000 in
/-- The document's May. -/
theorem rmay_any (x : Wd) (a : Int) (ht : x.txt.size ≤ 140737488351232) (w : World) : Calls Tryz.prog 28 #[wordV x a] w fun e w' => e = .returned (.bool (mayB x)) ∧ Below w.heap.size w w' := by
  obtain ⟨kd, tx, st, nm⟩ := x
  dsimp only at ht
  have key : ∀ r, mayB ⟨kd, tx, st, nm⟩ = r → (Calls Tryz.prog 28 #[wordV ⟨kd, tx, st, nm⟩ a] w fun e w' => e = .returned (.bool r) ∧ Below w.heap.size w w') → Calls Tryz.prog 28 #[wordV ⟨kd, tx, st, nm⟩ a] w fun e w' => e = .returned (.bool (mayB ⟨kd, tx, st, nm⟩)) ∧ Below w.heap.size w w' := fun r h k => by rw [h]; exact k
  have HE := eq_sets st 0#256
  obtain ⟨z0, z1, z2, z3⟩ := wz
  rw [z0, z1, z2, z3] at HE
  have hBw : ∀ o, Below w.heap.size w (w.alloc o) := fun o => (Below.refl _ w).alloc (Nat.le_refl _) _
  by_cases c1 : kd = 1
  · subst c1
    refine key _ (may1 tx st nm) ?_
    have HC := Lib.hid (fun w' => rname_any tx ht w')
    obtain ⟨q, hq⟩ : ∃ q, q = (nm == 0) := ⟨_, rfl⟩
    obtain ⟨r, hr⟩ : ∃ r, r = (st == 0#256) := ⟨_, rfl⟩
    obtain ⟨u, hu⟩ : ∃ u, u = nameB tx.data.toList := ⟨_, rfl⟩
    rw [← hq, ← hr, ← hu]
    rw [← hr] at HE
    rw [← hu] at HC
    have hq2 := hq.symm
    clear key hr hu hq z0 z1 z2 z3
    unfold wordV wordC
    cases q with
    | false =>
      go_enter Tryz.func28, Tryz.ntmps28
      go_wp2
      go_ret
      exact ⟨rfl, hBw _⟩
    | true =>
      cases r with
      | false =>
        go_enter Tryz.func28, Tryz.ntmps28
        go_wp2
        go_ret
        exact ⟨rfl, hBw _⟩
      | true =>
        go_enter Tryz.func28, Tryz.ntmps28
        go_wp2_with (go_at_call 20; refine (HC.out _).mono ?_; rintro e w' ⟨rfl, rfl⟩)
        go_ret
        exact ⟨by simp, hBw _⟩
  by_cases c2 : kd = 2
  · subst c2
    refine key _ (may2 tx st nm) ?_
    obtain ⟨q, hq⟩ : ∃ q, q = (nm == 0) := ⟨_, rfl⟩
    obtain ⟨r, hr⟩ : ∃ r, r = (st == 0#256) := ⟨_, rfl⟩
    rw [← hq, ← hr]
    rw [← hr] at HE
    have hq2 := hq.symm
    clear key hr hq z0 z1 z2 z3
    unfold wordV wordC
    cases q with
    | false =>
      go_enter Tryz.func28, Tryz.ntmps28
      go_wp2
      go_ret
      exact ⟨rfl, hBw _⟩
    | true =>
      cases r with
      | false =>
        go_enter Tryz.func28, Tryz.ntmps28
        go_wp2
        go_ret
        exact ⟨rfl, hBw _⟩
      | true =>
        go_enter Tryz.func28, Tryz.ntmps28
        go_wp2
        go_ret
        exact ⟨rfl, hBw _⟩
  by_cases c3 : kd = 3
  · subst c3
    refine key _ (may3 tx st nm) ?_
    obtain ⟨q, hq⟩ : ∃ q, q = (nm == 0) := ⟨_, rfl⟩
    obtain ⟨r, hr⟩ : ∃ r, r = tx.toList.isEmpty := ⟨_, rfl⟩
    rw [← hq, ← hr]
    have hq2 := hq.symm
    have hr2 := hr.symm
    clear key hr hq z0 z1 z2 z3
    unfold wordV wordC
    cases q with
    | false =>
      go_enter Tryz.func28, Tryz.ntmps28
      go_wp2
      go_ret
      exact ⟨rfl, hBw _⟩
    | true =>
      cases r with
      | false =>
        go_enter Tryz.func28, Tryz.ntmps28
        go_wp2
        go_ret
        exact ⟨rfl, hBw _⟩
      | true =>
        go_enter Tryz.func28, Tryz.ntmps28
        go_wp2
        go_ret
        exact ⟨rfl, hBw _⟩
  by_cases c4 : kd = 4
  · subst c4
    refine key _ (may4 tx st nm) ?_
    obtain ⟨q, hq⟩ : ∃ q, q = tx.toList.isEmpty := ⟨_, rfl⟩
    obtain ⟨r, hr⟩ : ∃ r, r = (st == 0#256) := ⟨_, rfl⟩
    rw [← hq, ← hr]
    rw [← hr] at HE
    have hq2 := hq.symm
    clear key hr hq z0 z1 z2 z3
    unfold wordV wordC
    cases q with
    | false =>
      go_enter Tryz.func28, Tryz.ntmps28
      go_wp2
      go_ret
      exact ⟨rfl, hBw _⟩
    | true =>
      cases r with
      | false =>
        go_enter Tryz.func28, Tryz.ntmps28
        go_wp2
        go_ret
        exact ⟨rfl, hBw _⟩
      | true =>
        by_cases g0 : 0 ≤ nm
        · have d0 : decide (0 ≤ nm) = true := decide_eq_true g0
          rw [d0]
          by_cases g1 : nm ≤ 999999999
          · have d1 : decide (nm ≤ 999999999) = true := decide_eq_true g1
            rw [d1]
            go_enter Tryz.func28, Tryz.ntmps28
            go_wp2
            go_ret
            exact ⟨rfl, hBw _⟩
          · have d1 : decide (nm ≤ 999999999) = false := decide_eq_false g1
            rw [d1]
            go_enter Tryz.func28, Tryz.ntmps28
            go_wp2
            go_ret
            exact ⟨rfl, hBw _⟩
        · have d0 : decide (0 ≤ nm) = false := decide_eq_false g0
          rw [d0]
          go_enter Tryz.func28, Tryz.ntmps28
          go_wp2
          go_ret
          exact ⟨rfl, hBw _⟩
  by_cases c5 : kd = 5
  · subst c5
    refine key _ (may5 tx st nm) ?_
    obtain ⟨q, hq⟩ : ∃ q, q = (nm == 0) := ⟨_, rfl⟩
    obtain ⟨r, hr⟩ : ∃ r, r = (st == 0#256) := ⟨_, rfl⟩
    rw [← hq, ← hr]
    rw [← hr] at HE
    have hq2 := hq.symm
    have HS1 := signT_one tx
    have HS0 := signT_not tx
    clear key hr hq z0 z1 z2 z3
    unfold wordV wordC
    cases q with
    | false =>
      go_enter Tryz.func28, Tryz.ntmps28
      go_wp2
      go_ret
      exact ⟨rfl, hBw _⟩
    | true =>
      cases r with
      | false =>
        go_enter Tryz.func28, Tryz.ntmps28
        go_wp2
        go_ret
        exact ⟨rfl, hBw _⟩
      | true =>
        by_cases h1 : tx.size = 1
        · rw [HS1 h1]
          obtain ⟨b, hb⟩ : ∃ b, b = (tx[0]'(by omega)).toNat := ⟨_, rfl⟩
          have hi : ∀ h, (tx[0]'h).toNat = b := fun h => hb.symm
          rw [← hb]
          have HC := Lib.hid (fun w' => rin_any b (by rw [hb]; exact (tx[0]'(by omega)).toNat_lt) w')
          have d1 : ((tx.size : Int) == 1) = true := by rw [beq_iff_eq]; omega
          clear hb HS1 HS0
          obtain ⟨u, hu⟩ : ∃ u, u = sgnB b := ⟨_, rfl⟩
          rw [← hu] at HC ⊢
          clear hu
          cases u with
          | false =>
            go_enter Tryz.func28, Tryz.ntmps28
            go_wp2_with (go_at_call 48; refine (HC.out _).mono ?_; rintro e w' ⟨rfl, rfl⟩)
            go_ret
            exact ⟨rfl, hBw _⟩
          | true =>
            go_enter Tryz.func28, Tryz.ntmps28
            go_wp2_with (go_at_call 48; refine (HC.out _).mono ?_; rintro e w' ⟨rfl, rfl⟩)
            go_ret
            exact ⟨rfl, hBw _⟩
        · rw [HS0 h1]
          have d1 : ((tx.size : Int) == 1) = false := by rw [beq_eq_false_iff_ne]; omega
          clear HS1 HS0
          go_enter Tryz.func28, Tryz.ntmps28
          go_wp2
          go_ret
          exact ⟨rfl, hBw _⟩
  · refine key false (may0 kd tx st nm c1 c2 c3 c4 c5) ?_
    have d1 : (kd == 1) = false := by rw [beq_eq_false_iff_ne]; exact c1
    have d2 : (kd == 2) = false := by rw [beq_eq_false_iff_ne]; exact c2
    have d3 : (kd == 3) = false := by rw [beq_eq_false_iff_ne]; exact c3
    have d4 : (kd == 4) = false := by rw [beq_eq_false_iff_ne]; exact c4
    have d5 : (kd == 5) = false := by rw [beq_eq_false_iff_ne]; exact c5
    clear key z0 z1 z2 z3 HE
    unfold wordV wordC
    go_enter Tryz.func28, Tryz.ntmps28
    go_wp2
    go_ret
    exact ⟨rfl, hBw _⟩

set_option maxRecDepth 100000 in
set_option maxHeartbeats 4000000 in
/-- The document's Told. -/
theorem rtold_any (x : Wd) (a : Int) (ht : x.txt.size ≤ 1048576) (hm0 : -9223372036854775808 ≤ x.num) (hm1 : x.num ≤ 9223372036854775807) (w : World) (hG : GlobD w) :
    Calls Tryz.prog 29 #[wordV x a] w fun e w' => e = .returned (.string (bytesStr (wordF x))) ∧ Below w.heap.size w w' := by
  obtain ⟨kd, tx, st, nm⟩ := x
  dsimp only at ht hm0 hm1
  have hB0 : Below w.heap.size w (w.alloc (.cells (wordC ⟨kd, tx, st, nm⟩ a) 35)) := (Below.refl _ w).alloc (Nat.le_refl _) _
  have HG0 := Lib.hid (hG.below (Nat.le_refl _) hB0)
  have HB0 := Lib.hid hB0
  have hwk : wordF ⟨kd, tx, st, nm⟩ = if kd = 2 then quoteF tx.data.toList else if kd = 3 then textS st else if kd = 4 then (Lib.itoa nm).map UInt8.toNat else tx.data.toList.map UInt8.toNat := rfl
  rw [hwk]
  clear hwk hG hB0
  by_cases c1 : kd = 2
  · rw [if_pos c1]
    subst c1
    have HC := Lib.hid (fun w' => rquote_any tx ht w')
    generalize quoteF tx.data.toList = L at HC ⊢
    unfold wordC at HB0 HG0
    unfold wordV wordC
    go_enter Tryz.func29, Tryz.ntmps29
    go_wp2_with (go_at_call 18; refine (HC.out _).mono ?_; rintro e w3 ⟨rfl, hB3⟩)
    go_ret
    exact ⟨rfl, HB0.out.trans (hB3.mono HB0.out.size)⟩
  · rw [if_neg c1]
    have d2 : (kd == 2) = false := by rw [beq_eq_false_iff_ne]; exact c1
    by_cases c2 : kd = 3
    · rw [if_pos c2]
      subst c2
      have HC := Lib.hid (fun w' => rtext_any st w')
      generalize textS st = L at HC ⊢
      unfold vset at HC
      unfold wordC at HB0 HG0
      unfold wordV wordC
      go_enter Tryz.func29, Tryz.ntmps29
      go_wp2_with (go_at_call 51; refine (HC.out _).mono ?_; rintro e w3 ⟨rfl, hB3⟩)
      go_ret
      exact ⟨rfl, HB0.out.trans (hB3.mono HB0.out.size)⟩
    · rw [if_neg c2]
      have d3 : (kd == 3) = false := by rw [beq_eq_false_iff_ne]; exact c2
      by_cases c3 : kd = 4
      · rw [if_pos c3]
        subst c3
        have HC := Lib.hid (itoa_any nm hm0 hm1 _ HG0.out)
        have e0 : (⟨(Lib.itoa nm).toArray⟩ : ByteArray) = bytesStr ((Lib.itoa nm).map UInt8.toNat) := by
          apply WideShapes.bytes_inj
          rw [bytesStr_list, map_back]
        rw [e0] at HC
        generalize (Lib.itoa nm).map UInt8.toNat = L at HC ⊢
        clear e0
        unfold wordC at HB0 HG0 HC
        unfold wordV wordC
        go_enter Tryz.func29, Tryz.ntmps29
        go_wp2_with (go_at_call 52; refine HC.out.mono ?_; rintro e w3 ⟨rfl, hB3⟩)
        go_ret
        exact ⟨rfl, HB0.out.trans (hB3.mono HB0.out.size)⟩
      · rw [if_neg c3]
        have d4 : (kd == 4) = false := by rw [beq_eq_false_iff_ne]; exact c3
        have e0 : bytesStr (tx.data.toList.map UInt8.toNat) = tx := by
          apply WideShapes.bytes_inj
          rw [bytesStr_list, map_back]
        rw [e0]
        clear e0
        unfold wordC at HB0 HG0
        unfold wordV wordC
        go_enter Tryz.func29, Tryz.ntmps29
        go_wp2
        go_ret
        exact ⟨rfl, HB0.out⟩
end Go.Proofs.YtdodkbpagbblmaaGreatDoor
end
section
namespace Go.Proofs.YtdodkbpagbblmaaGreatDoor
open Go Go.RowKit

/-! ### which numbers a text has -/
theorem digitVal_dig (b : UInt8) : Lib.digitVal b = if digB b.toNat = true then some (b.toNat - 48) else none := by
  unfold Lib.digitVal digB
  simp only [decide_eq_true_eq]
theorem dig_ofNat (c : UInt8) (h : digB c.toNat = true) : UInt8.ofNat (48 + (c.toNat - 48)) = c := by
  unfold digB at h
  rw [decide_eq_true_eq] at h
  have e : 48 + (c.toNat - 48) = c.toNat := by omega
  rw [e]
  simp
theorem decDigits_more {u : Nat} (h : ¬ u < 10) : Lib.decDigits u = Lib.decDigits (u / 10) ++ [UInt8.ofNat (48 + u % 10)] := by
  rw [Lib.decDigits, dif_neg h]
theorem decDigits_ne (u : Nat) : Lib.decDigits u ≠ [] := by
  by_cases h : u < 10
  · rw [Lib.decDigits_one h]; simp
  · rw [decDigits_more h]; simp
theorem decDigits_head (u : Nat) (h0 : u ≠ 0) : ∀ c, (Lib.decDigits u).head? = some c → c ≠ 48 := by
  induction u using Nat.strongRecOn with
  | _ u ih =>
    intro c hc
    by_cases h : u < 10
    · rw [Lib.decDigits_one h] at hc
      rw [List.head?_cons] at hc
      have hc2 := Option.some.inj hc
      rw [← hc2]
      intro e
      have k : ∀ d : Fin 10, d.val ≠ 0 → UInt8.ofNat (48 + d.val) ≠ 48 := by decide +kernel
      exact k ⟨u, h⟩ h0 e
    · rw [decDigits_more h] at hc
      refine ih (u / 10) (by omega) (by omega) c ?_
      have := decDigits_ne (u / 10)
      cases hd : Lib.decDigits (u / 10) with
      | nil => exact absurd hd this
      | cons x t => rw [hd] at hc; simpa using hc
theorem decFrom_append (l m : List UInt8) : ∀ (a n : Nat), Lib.decFrom a l = some n → Lib.decFrom a (l ++ m) = Lib.decFrom n m := by
  induction l with
  | nil => intro a n h; cases h; rfl
  | cons b l ih =>
    intro a n h
    rw [List.cons_append]
    have e : ∀ t, Lib.decFrom a (b :: t) = match Lib.digitVal b with
      | some d => Lib.decFrom (a * 10 + d) t
      | none => none := fun _ => rfl
    rw [e] at h ⊢
    cases hd : Lib.digitVal b with
    | none => rw [hd] at h; cases h
    | some d => rw [hd] at h; exact ih _ _ h
theorem decFrom_snoc (l : List UInt8) (c : UInt8) (a m : Nat) (h : Lib.decFrom a (l ++ [c]) = some m) : ∃ n, Lib.decFrom a l = some n ∧ digB c.toNat = true ∧ m = n * 10 + (c.toNat - 48) := by
  obtain ⟨n, hn⟩ := Lib.decFrom_prefix _ a m h l.length
  rw [List.take_left] at hn
  rw [decFrom_append l [c] a n hn] at h
  have e : Lib.decFrom n [c] = match Lib.digitVal c with
      | some d => some (n * 10 + d)
      | none => none := rfl
  rw [e, digitVal_dig] at h
  by_cases hd : digB c.toNat = true
  · rw [if_pos hd] at h
    exact ⟨n, hn, hd, (Option.some.inj h).symm⟩
  · rw [if_neg hd] at h; cases h
/-- Digits without noughts ahead are their number's. -/
theorem digits_back : ∀ (k : Nat) (l : List UInt8), l.length = k + 1 → ∀ m, Lib.decFrom 0 l = some m → (l.length = 1 ∨ ∀ c, l.head? = some c → c ≠ 48) → Lib.decDigits m = l := by
  intro k
  induction k with
  | zero =>
    intro l hl m h _
    match l, hl with
    | [c], _ =>
      obtain ⟨n, hn, hd, hm⟩ := decFrom_snoc [] c 0 m h
      cases hn
      have h9 : c.toNat - 48 < 10 := by unfold digB at hd; rw [decide_eq_true_eq] at hd; omega
      rw [hm, Nat.zero_mul, Nat.zero_add, Lib.decDigits_one h9, dig_ofNat c hd]
  | succ k ih =>
    intro l hl m h hh
    have hne : l ≠ [] := by intro e; rw [e] at hl; simp at hl
    obtain ⟨r, c, rfl⟩ : ∃ r c, l = r ++ [c] := ⟨l.dropLast, l.getLast hne, (List.dropLast_concat_getLast hne).symm⟩
    rw [List.length_append, List.length_singleton] at hl
    obtain ⟨n, hn, hd, hm⟩ := decFrom_snoc r c 0 m h
    have hr : r ≠ [] := by intro e; rw [e] at hl; simp at hl
    have hh2 : ∀ c, r.head? = some c → c ≠ 48 := by
      rcases hh with h1 | h1
      · rw [List.length_append, List.length_singleton] at h1; omega
      · intro x hx
        refine h1 x ?_
        cases r with
        | nil => exact absurd rfl hr
        | cons y t => simpa using hx
    have hi := ih r (by omega) n hn (.inr hh2)
    have h9 : c.toNat - 48 < 10 := by unfold digB at hd; rw [decide_eq_true_eq] at hd; omega
    have hn0 : n ≠ 0 := by
      intro e
      rw [e, Lib.decDigits_one (by omega)] at hi
      exact hh2 48 (by rw [← hi]; rfl) rfl
    have e1 : m / 10 = n := by omega
    have e2 : m % 10 = c.toNat - 48 := by omega
    rw [decDigits_more (by omega), e1, e2, hi, dig_ofNat c hd]
theorem digits_not (l : List UInt8) (m : Nat) (c : UInt8) (r : List UInt8) (e : l = c :: r) (hc : c = 48) (hr : r ≠ []) : Lib.decDigits m ≠ l := by
  intro h
  by_cases h0 : m = 0
  · rw [h0, Lib.decDigits_one (by omega), e] at h
    injection h with _ h2
    exact hr h2.symm
  · exact decDigits_head m h0 c (by rw [h, e]; rfl) hc

theorem atoi_digits (l : List UInt8) (m : Nat) (hl : l ≠ []) (h : Lib.decFrom 0 l = some m) : Lib.atoi l = some (m : Int) := by
  cases l with
  | nil => exact absurd rfl hl
  | cons b r =>
    obtain ⟨d, hd⟩ := Lib.digit_of_decFrom _ _ _ h 0 b rfl
    obtain ⟨h1, h2, _⟩ := Lib.digitVal_eq hd
    have e1 : (b == 45) = false := by
      rw [beq_eq_false_iff_ne]; intro e; rw [e] at h1; exact absurd h1 (by decide)
    have e2 : (b == 43) = false := by
      rw [beq_eq_false_iff_ne]; intro e; rw [e] at h1; exact absurd h1 (by decide)
    have e3 : Lib.decNat (b :: r) = Lib.decFrom 0 (b :: r) := rfl
    have e4 : Lib.atoi (b :: r) = if (b == 45) = true then (Lib.decNat r).map fun (m : Nat) => -(m : Int) else if (b == 43) = true then (Lib.decNat r).map fun (m : Nat) => (m : Int) else (Lib.decNat (b :: r)).map fun (m : Nat) => (m : Int) := rfl
    rw [e4, if_neg (by rw [e1]; decide), if_neg (by rw [e2]; decide), e3, h]
    rfl
theorem atoi_not (l : List UInt8) (k : Nat) (b c : UInt8) (r : List UInt8) (hc : l = c :: r) (hd : digB c.toNat = true) (hk : l[k]? = some b) (hb : digB b.toNat = false) : Lib.atoi l = none := by
  cases ha : Lib.atoi l with
  | none => rfl
  | some n =>
    exfalso
    obtain ⟨b0, t, e, hcase⟩ := Lib.atoi_cases ha
    rw [hc] at e
    injection e with e1 e2
    subst e1
    have hd2 : 48 ≤ c.toNat := by unfold digB at hd; rw [decide_eq_true_eq] at hd; omega
    rcases hcase with ⟨h, _⟩ | ⟨h, _⟩ | ⟨_, _, m, hm, _⟩
    · rw [h] at hd2; exact absurd hd2 (by decide)
    · rw [h] at hd2; exact absurd hd2 (by decide)
    · rw [hc, e2] at hk
      obtain ⟨d, h3⟩ := Lib.digit_of_decFrom _ _ _ hm k b hk
      rw [digitVal_dig, if_neg (by rw [hb]; decide)] at h3
      cases h3

theorem dig_named {b : Nat} (h : digB b = true) : namB b = true := by unfold namB; rw [h]; simp
theorem runL_digits (l : List UInt8) : ∀ (k a v : Nat), k ≤ l.length → Lib.decFrom a (l.take k) = some v → k ≤ runL l := by
  induction l with
  | nil => intro k a v hk _; simp at hk; omega
  | cons c r ih =>
    intro k a v hk h
    cases k with
    | zero => exact Nat.zero_le _
    | succ k =>
      rw [List.take_succ_cons] at h
      have e : Lib.decFrom a (c :: r.take k) = match Lib.digitVal c with
        | some d => Lib.decFrom (a * 10 + d) (r.take k)
        | none => none := rfl
      rw [e, digitVal_dig] at h
      by_cases hd : digB c.toNat = true
      · rw [if_pos hd] at h
        have := ih k _ v (by simp at hk; omega) h
        rw [runL_cons, if_pos (dig_named hd)]
        omega
      · rw [if_neg hd] at h; cases h

/-- Does a name's byte stand ahead? -/
def nxtB : List UInt8 → Bool
  | [] => false
  | b :: _ => namB b.toNat
/-- The number with which a text begins: its digits, and what stands behind them. -/
theorem numO_of (l : List UInt8) (m v : Nat) (c : UInt8) (r : List UInt8) (hl : l = c :: r) (hm : 1 ≤ m) (hml : m ≤ l.length) (hv : Lib.decFrom 0 (l.take m) = some v) (hn : ∀ b t, l.drop m = b :: t → digB b.toNat = false) :
    (numO l = if ((c ≠ 48 ∨ m = 1) ∧ m ≤ 9) ∧ nxtB (l.drop m) = false then some (v : Int) else none) ∧ (nxtB (l.drop m) = false → runL l = m) := by
  have h1 := runL_digits l m 0 v hml hv
  have h2 := runL_drop l m h1
  have hlen : (l.take m).length = m := by rw [List.length_take]; omega
  have hrun : nxtB (l.drop m) = false → runL l = m := by
    intro h
    rw [h2]
    cases hd : l.drop m with
    | nil => rfl
    | cons b t =>
      rw [hd] at h
      have h' : namB b.toNat = false := h
      rw [runL_cons, if_neg (by rw [h']; decide)]; omega
  refine ⟨?_, hrun⟩
  obtain ⟨d, hdc⟩ := Lib.digit_of_decFrom _ _ _ hv 0 c (by rw [hl]; cases m with | zero => omega | succ m => rfl)
  have hcd : digB c.toNat = true := by
    rw [digitVal_dig] at hdc
    by_cases h : digB c.toNat = true
    · exact h
    · rw [if_neg h] at hdc; cases hdc
  have hne : l.take m ≠ [] := by intro e; rw [e] at hlen; simp at hlen; omega
  cases hb : nxtB (l.drop m) with
  | false =>
    have hr := hrun hb
    unfold numO
    rw [hr]
    by_cases h9 : m ≤ 9
    · rw [if_pos h9, atoi_digits _ v hne hv]
      simp only
      have hit : Lib.itoa (v : Int) = Lib.decDigits v := Lib.itoa_nonneg v
      rw [hit]
      by_cases hc : c ≠ 48 ∨ m = 1
      · rw [if_pos (c := (_ ∧ _) ∧ _) ⟨⟨hc, h9⟩, trivial⟩]
        refine if_pos ?_
        refine digits_back (m - 1) _ (by rw [hlen]; omega) v hv ?_
        rcases hc with hc | hc
        · refine .inr fun x hx => ?_
          rw [hl] at hx
          cases m with
          | zero => omega
          | succ m => simp at hx; rw [← hx]; exact hc
        · exact .inl (by rw [hlen, hc])
      · rw [if_neg (c := (_ ∧ _) ∧ _) (fun h => hc h.1.1)]
        refine if_neg ?_
        have h48 : c = 48 := Decidable.byContradiction fun h => hc (.inl h)
        have hm1 : m ≠ 1 := fun h => hc (.inr h)
        refine digits_not _ v c (r.take (m - 1)) ?_ h48 ?_
        · rw [hl]
          cases m with
          | zero => omega
          | succ m => rfl
        · intro e
          have := congrArg List.length e
          rw [List.length_take, List.length_nil] at this
          rw [hl, List.length_cons] at hml
          omega
    · rw [if_neg h9, if_neg (fun h => h9 h.1.2)]
  | true =>
    rw [if_neg (fun h => by cases h.2)]
    have : ∃ b t, l.drop m = b :: t ∧ namB b.toNat = true := by
      cases hd : l.drop m with
      | nil => rw [hd] at hb; cases hb
      | cons b t => rw [hd] at hb; exact ⟨b, t, rfl, hb⟩
    obtain ⟨b, t, e, hq⟩ := this
    have hbd := hn b t e
    have hrl : m + 1 ≤ runL l := by
      rw [h2, e, runL_cons, if_pos hq]; omega
    unfold numO
    by_cases h9 : runL l ≤ 9
    · rw [if_pos h9, atoi_not (l.take (runL l)) m b c (r.take (runL l - 1)) ?_ hcd ?_ hbd]
      · rw [hl]
        cases hrr : runL (c :: r) with
        | zero => rw [hl, hrr] at hrl; omega
        | succ q => rfl
      · rw [List.getElem?_take, if_pos (by omega)]
        have : (l.drop m)[0]? = some b := by rw [e]; rfl
        rw [List.getElem?_drop] at this
        simpa using this
    · rw [if_neg h9]
end Go.Proofs.YtdodkbpagbblmaaGreatDoor
end
