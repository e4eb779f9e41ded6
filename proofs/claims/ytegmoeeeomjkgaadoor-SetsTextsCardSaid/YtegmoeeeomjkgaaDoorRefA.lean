import Derived.Deep.QuietTactic
import Derived.BigQuiet
import Derived.IntWalk
import Derived.Deep.RegionLaw
import Derived.Test.YtegmoeeeomjkgaaDoorF
namespace Go.Proofs.YtegmoeeeomjkgaaDoor
open Go Go.RowKit

theorem and_twoPow (x : BitVec 64) (j : Nat) (h : x.getLsbD j = false) : x &&& BitVec.twoPow 64 j = 0#64 := by
  apply BitVec.eq_of_getLsbD_eq; intro i hi
  rw [BitVec.getLsbD_and, BitVec.getLsbD_twoPow]
  by_cases e : j = i
  · subst e; simp [h]
  · simp [e]

/-- A byte that is not in the set is put there by adding its bit. -/
theorem wdI_add (s : BS) (b i : Nat) (hb : b < 256) (h : b / 64 = i) (hs : s.getLsbD b = false) : IntKind.u64.wrap (wdI s i + IntKind.u64.wrap (2 ^ (b % 64))) = wdI (withB s b) i := by
  rw [two_pow_bv _ (by omega)]; unfold wdI
  rw [wd_with s b i hb, if_pos h.symm]
  have hz : wd s i &&& BitVec.twoPow 64 (b % 64) = 0#64 := and_twoPow _ _ (by
    rw [wd_bit]; subst h
    rw [show 64 * (b / 64) + b % 64 = b by omega, hs]; simp)
  rw [← BitVec.add_eq_or_of_and_eq_zero _ _ hz, BitVec.toNat_add, IntKind.wrap_u64]
  omega

theorem withB_has (s : BS) (b : Nat) (hb : b < 256) (h : s.getLsbD b = true) : withB s b = s := by
  apply BitVec.eq_of_getLsbD_eq; intro j hj
  rw [withB_bit _ _ _ hb]
  by_cases e : b = j
  · subst e; simp [h]
  · simp [e]

theorem bit2_I (s : BS) (b : Nat) (hb : b < 256) : (wdI s (b / 64) / 2 ^ (b % 64) % 2 == 1) = s.getLsbD b := by
  rw [← bit_I s b hb]
  have e : wdI s (b / 64) / 2 ^ (b % 64) = ((wd s (b / 64)).toNat / 2 ^ (b % 64) : Nat) := by
    unfold wdI; simp
  have hlt := (wd s (b / 64)).isLt
  have hl2 : (wd s (b / 64)).toNat / 2 ^ (b % 64) < 18446744073709551616 := Nat.lt_of_le_of_lt (Nat.div_le_self _ _) hlt
  rw [e]
  have e1 : (1 : Int) = ((1 : Nat) : Int) := rfl
  have h := bits_and_u64_nat _ 1 hl2 (by omega)
  rw [Nat.and_one_is_mod] at h
  rw [e1, h]
  generalize (wd s (b / 64)).toNat / 2 ^ (b % 64) = X
  have : X % 2 = 0 ∨ X % 2 = 1 := by omega
  rcases this with h | h
  · have : ((X : Int) % 2) = 0 := by omega
    simp [h, this]
  · have : ((X : Int) % 2) = 1 := by omega
    simp [h, this]

set_option maxHeartbeats 400000 in
theorem rhas_any (s : BS) (b : Nat) (hb : b < 256) (w : World) : Calls Tryd.prog 17 #[vset s, .int .i64 b] w fun e w' => e = .returned (.bool (s.getLsbD b)) ∧ Below w.heap.size w w' := by
  have hr := bit2_I s b hb
  rw [← hr]; clear hr
  unfold vset
  have hc := cells_at s (b / 64) (by omega)
  go_enter Tryd.func17, Tryd.ntmps17
  go_wp2
  go_ret
  exact ⟨rfl, (Below.refl _ _).alloc (Nat.le_refl _) _⟩

set_option maxRecDepth 100000 in
set_option maxHeartbeats 2000000 in
theorem rwith_old (s : BS) (b : Nat) (hb : b < 256) (hs : s.getLsbD b = true) (w : World) : Calls Tryd.prog 42 #[vset s, .int .i64 b] w fun e w' => e = .returned (vset s) ∧ Below w.heap.size w w' := by
  have HH := Lib.hid (fun w' => rhas_any s b hb w')
  rw [hs] at HH
  clear hs
  unfold vset at HH ⊢
  go_enter Tryd.func42, Tryd.ntmps42
  go_wp2_with fail
  refine (HH.out _).mono ?_
  rintro e w1 ⟨rfl, hB1⟩
  have hA := Lib.hid (((Blk.new w 29 (cset s)).alloc (.cells #[.int .u64 0, .int .u64 0, .int .u64 0, .int .u64 0] 29)).below hB1 (by simp; omega))
  have hZ0 := (Blk.new (w.alloc (.cells (cset s) 29)) 29 zcs).below hB1 (by simp)
  rw [World.size_alloc] at hZ0
  have hZ := Lib.hid hZ0
  have HB := Lib.hid ((((Below.refl _ w).alloc (Nat.le_refl _) (.cells (cset s) 29)).alloc (by simp) (.cells zcs 29)).trans (hB1.mono (by simp; omega)))
  clear hZ0 hB1 HH
  have c0 : w1.cell? ⟨w.heap.size, 0, none⟩ = some (.int .u64 (wdI s 0)) := hA.out.cell 0
  have c1 : w1.cell? ⟨w.heap.size, 1, none⟩ = some (.int .u64 (wdI s 1)) := hA.out.cell 1
  have c2 : w1.cell? ⟨w.heap.size, 2, none⟩ = some (.int .u64 (wdI s 2)) := hA.out.cell 2
  have c3 : w1.cell? ⟨w.heap.size, 3, none⟩ = some (.int .u64 (wdI s 3)) := hA.out.cell 3
  have z0 : w1.cell? ⟨w.heap.size + 1, 0, none⟩ = some (.int .u64 0) := hZ.out.cell 0
  have z1 : w1.cell? ⟨w.heap.size + 1, 1, none⟩ = some (.int .u64 0) := hZ.out.cell 1
  have z2 : w1.cell? ⟨w.heap.size + 1, 2, none⟩ = some (.int .u64 0) := hZ.out.cell 2
  have z3 : w1.cell? ⟨w.heap.size + 1, 3, none⟩ = some (.int .u64 0) := hZ.out.cell 3
  have fz : ∀ i, w1.frozen? ⟨w.heap.size + 1, i, none⟩ = false := hZ.out.frozen
  go_wp2
  have y := Blk.set4 hZ.out (.int .u64 (wdI s 0)) (.int .u64 (wdI s 1)) (.int .u64 (wdI s 2)) (.int .u64 (wdI s 3))
  have y0 := y.cell 0
  have y1 := y.cell 1
  have y2 := y.cell 2
  have y3 := y.cell 3
  refine bodyPost_ret (v := .agg #[.int .u64 (wdI s 0), .int .u64 (wdI s 1), .int .u64 (wdI s 2), .int .u64 (wdI s 3)]) (by simp [results, Tryd.results42, go_sem, y0, y1, y2, y3]) rfl ⟨rfl, ?_⟩
  exact below_set4 HB.out (by omega) _ _ _ _

theorem cset_put (s u : BS) (i : Nat) (hi : i < 4) (h : ∀ k, k < 4 → k ≠ i → wdI u k = wdI s k) : (cset s).setIfInBounds i (.int .u64 (wdI u i)) = cset u := by
  have : i = 0 ∨ i = 1 ∨ i = 2 ∨ i = 3 := by omega
  rcases this with rfl | rfl | rfl | rfl
  · have h1 := h 1 (by omega) (by omega); have h2 := h 2 (by omega) (by omega); have h3 := h 3 (by omega) (by omega)
    unfold cset; rw [h1, h2, h3]; rfl
  · have h1 := h 0 (by omega) (by omega); have h2 := h 2 (by omega) (by omega); have h3 := h 3 (by omega) (by omega)
    unfold cset; rw [h1, h2, h3]; rfl
  · have h1 := h 0 (by omega) (by omega); have h2 := h 1 (by omega) (by omega); have h3 := h 3 (by omega) (by omega)
    unfold cset; rw [h1, h2, h3]; rfl
  · have h1 := h 0 (by omega) (by omega); have h2 := h 1 (by omega) (by omega); have h3 := h 2 (by omega) (by omega)
    unfold cset; rw [h1, h2, h3]; rfl

set_option maxRecDepth 100000 in
set_option maxHeartbeats 2000000 in
theorem rwith_new (s : BS) (b : Nat) (hb : b < 256) (hs : s.getLsbD b = false) (w : World) : Calls Tryd.prog 42 #[vset s, .int .i64 b] w fun e w' => e = .returned (vset (withB s b)) ∧ Below w.heap.size w w' := by
  have HH := Lib.hid (fun w' => rhas_any s b hb w')
  have HI : Hid (IntKind.u64.wrap (wdI s (b / 64) + IntKind.u64.wrap (2 ^ (b % 64))) = wdI (withB s b) (b / 64)) := wdI_add s b _ hb rfl hs
  have HO : Hid (∀ i, i < 4 → i ≠ b / 64 → wdI (withB s b) i = wdI s i) := fun i _ h => wdI_with_other s b i hb (fun e => h e.symm)
  rw [hs] at HH
  clear hs
  obtain ⟨u, hu⟩ : ∃ u, u = withB s b := ⟨_, rfl⟩
  rw [← hu] at HI HO ⊢
  clear hu
  unfold vset at HH ⊢
  go_enter Tryd.func42, Tryd.ntmps42
  go_wp2_with fail
  refine (HH.out _).mono ?_
  rintro e w1 ⟨rfl, hB1⟩
  have hA := Lib.hid (((Blk.new w 29 (cset s)).alloc (.cells #[.int .u64 0, .int .u64 0, .int .u64 0, .int .u64 0] 29)).below hB1 (by simp; omega))
  have hZ0 := (Blk.new (w.alloc (.cells (cset s) 29)) 29 zcs).below hB1 (by simp)
  rw [World.size_alloc] at hZ0
  have hZ := Lib.hid hZ0
  have HB := Lib.hid ((((Below.refl _ w).alloc (Nat.le_refl _) (.cells (cset s) 29)).alloc (by simp) (.cells zcs 29)).trans (hB1.mono (by simp; omega)))
  clear hZ0 hB1 HH
  have hcat := cells_at s (b / 64) (by omega)
  have hcell : w1.cell? ⟨w.heap.size, b / 64, none⟩ = some (.int .u64 (wdI s (b / 64))) := by
    rw [hA.out.cell]; unfold cset; simpa using hcat
  have hfr := hA.out.frozen (b / 64)
  have hk := HI.out
  clear hcat
  go_wp2
  go_region
  have hA2 : Blk (w1.setCell ⟨w.heap.size, b / 64, none⟩ (.int .u64 (wdI u (b / 64)))).drew w.heap.size 29 (cset u) := by
    have h := hA.out.set (b / 64) (.int .u64 (wdI u (b / 64)))
    rw [cset_put s u (b / 64) (by omega) HO.out] at h
    exact h
  have hZ2 : Blk (w1.setCell ⟨w.heap.size, b / 64, none⟩ (.int .u64 (wdI u (b / 64)))).drew (w.heap.size + 1) 29 zcs := hZ.out.other (a := ⟨w.heap.size, b / 64, none⟩) (by simp) _
  have hB2 : Below w.heap.size w (w1.setCell ⟨w.heap.size, b / 64, none⟩ (.int .u64 (wdI u (b / 64)))).drew := (HB.out.setCell (p := ⟨w.heap.size, b / 64, none⟩) (Nat.le_refl _) _).drew
  obtain ⟨w2, hw2⟩ : ∃ w2, w2 = (w1.setCell ⟨w.heap.size, b / 64, none⟩ (.int .u64 (wdI u (b / 64)))).drew := ⟨_, rfl⟩
  rw [← hw2] at hA2 hZ2 hB2 ⊢
  have HA2 := Lib.hid hA2
  have HZ2 := Lib.hid hZ2
  have HB2 := Lib.hid hB2
  clear hw2 hcell hfr hk hA hZ HB HI HO hA2 hZ2 hB2
  have c0 : w2.cell? ⟨w.heap.size, 0, none⟩ = some (.int .u64 (wdI u 0)) := HA2.out.cell 0
  have c1 : w2.cell? ⟨w.heap.size, 1, none⟩ = some (.int .u64 (wdI u 1)) := HA2.out.cell 1
  have c2 : w2.cell? ⟨w.heap.size, 2, none⟩ = some (.int .u64 (wdI u 2)) := HA2.out.cell 2
  have c3 : w2.cell? ⟨w.heap.size, 3, none⟩ = some (.int .u64 (wdI u 3)) := HA2.out.cell 3
  have z0 : w2.cell? ⟨w.heap.size + 1, 0, none⟩ = some (.int .u64 0) := HZ2.out.cell 0
  have z1 : w2.cell? ⟨w.heap.size + 1, 1, none⟩ = some (.int .u64 0) := HZ2.out.cell 1
  have z2 : w2.cell? ⟨w.heap.size + 1, 2, none⟩ = some (.int .u64 0) := HZ2.out.cell 2
  have z3 : w2.cell? ⟨w.heap.size + 1, 3, none⟩ = some (.int .u64 0) := HZ2.out.cell 3
  have fz : ∀ i, w2.frozen? ⟨w.heap.size + 1, i, none⟩ = false := HZ2.out.frozen
  go_wp2
  have y := Blk.set4 HZ2.out (.int .u64 (wdI u 0)) (.int .u64 (wdI u 1)) (.int .u64 (wdI u 2)) (.int .u64 (wdI u 3))
  have y0 := y.cell 0
  have y1 := y.cell 1
  have y2 := y.cell 2
  have y3 := y.cell 3
  refine bodyPost_ret (v := .agg #[.int .u64 (wdI u 0), .int .u64 (wdI u 1), .int .u64 (wdI u 2), .int .u64 (wdI u 3)]) (by simp [results, Tryd.results42, go_sem, y0, y1, y2, y3]) rfl ⟨rfl, ?_⟩
  exact below_set4 HB2.out (by omega) _ _ _ _

theorem rwith_any (s : BS) (b : Nat) (hb : b < 256) (w : World) : Calls Tryd.prog 42 #[vset s, .int .i64 b] w fun e w' => e = .returned (vset (withB s b)) ∧ Below w.heap.size w w' := by
  cases h : s.getLsbD b with
  | true => rw [withB_has s b hb h]; exact rwith_old s b hb h w
  | false => exact rwith_new s b hb h w
end Go.Proofs.YtegmoeeeomjkgaaDoor
