import Derived.Deep.QuietTactic
import Derived.BigQuiet
import Derived.IntWalk
import Derived.Deep.RegionLaw
import Derived.Deep.RegionHeld3
import Derived.Deep.DeepCutAuto
import Derived.Deep.RegionWith
import Derived.Lib.ItoaLen
import Derived.Test.YtdodkbpagbblmaaGreatDoorM3
import Derived.Test.YtdodkbpagbblmaaGreatDoorM5
import Derived.Test.YtdodkbpagbblmaaGreatDoorM6
section
namespace Go.Proofs.YtdodkbpagbblmaaGreatDoor
open Go Go.RowKit

theorem and_twoPow (x : BitVec 64) (j : Nat) (h : x.getLsbD j = false) : x &&& BitVec.twoPow 64 j = 0#64 := by
  apply BitVec.eq_of_getLsbD_eq; intro i hi
  rw [BitVec.getLsbD_and, BitVec.getLsbD_twoPow]
  by_cases e : j = i
  · subst e; simp [h]
  · simp [e]

/-- A byte that is not in the set is put there by adding its bit. -/
theorem wdI_add (s : BS) (b i : Nat) (hb : b < 256) (h : b / 64 = i) (hs : s.getLsbD b = false) : IntKind.u64.wrap (wdI s i + IntKind.u64.wrap (2 ^ (b % 64))) = wdI (withB s b) i := by
  rw [two_pow_bv _ (by omega)]; unfold wdI
  rw [wd_with s b i hb, if_pos h.symm]
  have hz : wd s i &&& BitVec.twoPow 64 (b % 64) = 0#64 := and_twoPow _ _ (by
    rw [wd_bit]; subst h
    rw [show 64 * (b / 64) + b % 64 = b by omega, hs]; simp)
  rw [← BitVec.add_eq_or_of_and_eq_zero _ _ hz, BitVec.toNat_add, IntKind.wrap_u64]
  omega

theorem withB_has (s : BS) (b : Nat) (hb : b < 256) (h : s.getLsbD b = true) : withB s b = s := by
  apply BitVec.eq_of_getLsbD_eq; intro j hj
  rw [withB_bit _ _ _ hb]
  by_cases e : b = j
  · subst e; simp [h]
  · simp [e]

theorem bit2_I (s : BS) (b : Nat) (hb : b < 256) : (wdI s (b / 64) / 2 ^ (b % 64) % 2 == 1) = s.getLsbD b := by
  rw [← bit_I s b hb]
  have e : wdI s (b / 64) / 2 ^ (b % 64) = ((wd s (b / 64)).toNat / 2 ^ (b % 64) : Nat) := by
    unfold wdI; simp
  have hlt := (wd s (b / 64)).isLt
  have hl2 : (wd s (b / 64)).toNat / 2 ^ (b % 64) < 18446744073709551616 := Nat.lt_of_le_of_lt (Nat.div_le_self _ _) hlt
  rw [e]
  have e1 : (1 : Int) = ((1 : Nat) : Int) := rfl
  have h := bits_and_u64_nat _ 1 hl2 (by omega)
  rw [Nat.and_one_is_mod] at h
  rw [e1, h]
  generalize (wd s (b / 64)).toNat / 2 ^ (b % 64) = X
  have : X % 2 = 0 ∨ X % 2 = 1 := by omega
  rcases this with h | h
  · have : ((X : Int) % 2) = 0 := by omega
    simp [h, this]
  · have : ((X : Int) % 2) = 1 := by omega
    simp [h, this]

set_option maxHeartbeats 400000 in
theorem rhas_any (s : BS) (b : Nat) (hb : b < 256) (w : World) : Calls Tryz.prog 88 #[vset s, .int .i64 b] w fun e w' => e = .returned (.bool (s.getLsbD b)) ∧ Below w.heap.size w w' := by
  have hr := bit2_I s b hb
  rw [← hr]; clear hr
  unfold vset
  have hc := cells_at s (b / 64) (by omega)
  go_enter Tryz.func88, Tryz.ntmps88
  go_wp2
  go_ret
  exact ⟨rfl, (Below.refl _ _).alloc (Nat.le_refl _) _⟩

set_option maxRecDepth 100000 in
set_option maxHeartbeats 2000000 in
theorem rwith_old (s : BS) (b : Nat) (hb : b < 256) (hs : s.getLsbD b = true) (w : World) : Calls Tryz.prog 66 #[vset s, .int .i64 b] w fun e w' => e = .returned (vset s) ∧ Below w.heap.size w w' := by
  have HH := Lib.hid (fun w' => rhas_any s b hb w')
  rw [hs] at HH
  clear hs
  unfold vset at HH ⊢
  go_enter Tryz.func66, Tryz.ntmps66
  go_wp2_with fail
  refine (HH.out _).mono ?_
  rintro e w1 ⟨rfl, hB1⟩
  have hA := Lib.hid (((Blk.new w 33 (cset s)).alloc (.cells #[.int .u64 0, .int .u64 0, .int .u64 0, .int .u64 0] 33)).below hB1 (by simp; omega))
  have hZ0 := (Blk.new (w.alloc (.cells (cset s) 33)) 33 zcs).below hB1 (by simp)
  rw [World.size_alloc] at hZ0
  have hZ := Lib.hid hZ0
  have HB := Lib.hid ((((Below.refl _ w).alloc (Nat.le_refl _) (.cells (cset s) 33)).alloc (by simp) (.cells zcs 33)).trans (hB1.mono (by simp; omega)))
  clear hZ0 hB1 HH
  have c0 : w1.cell? ⟨w.heap.size, 0, none⟩ = some (.int .u64 (wdI s 0)) := hA.out.cell 0
  have c1 : w1.cell? ⟨w.heap.size, 1, none⟩ = some (.int .u64 (wdI s 1)) := hA.out.cell 1
  have c2 : w1.cell? ⟨w.heap.size, 2, none⟩ = some (.int .u64 (wdI s 2)) := hA.out.cell 2
  have c3 : w1.cell? ⟨w.heap.size, 3, none⟩ = some (.int .u64 (wdI s 3)) := hA.out.cell 3
  have z0 : w1.cell? ⟨w.heap.size + 1, 0, none⟩ = some (.int .u64 0) := hZ.out.cell 0
  have z1 : w1.cell? ⟨w.heap.size + 1, 1, none⟩ = some (.int .u64 0) := hZ.out.cell 1
  have z2 : w1.cell? ⟨w.heap.size + 1, 2, none⟩ = some (.int .u64 0) := hZ.out.cell 2
  have z3 : w1.cell? ⟨w.heap.size + 1, 3, none⟩ = some (.int .u64 0) := hZ.out.cell 3
  have fz : ∀ i, w1.frozen? ⟨w.heap.size + 1, i, none⟩ = false := hZ.out.frozen
  go_wp2
  have y := Blk.set4 hZ.out (.int .u64 (wdI s 0)) (.int .u64 (wdI s 1)) (.int .u64 (wdI s 2)) (.int .u64 (wdI s 3))
  have y0 := y.cell 0
  have y1 := y.cell 1
  have y2 := y.cell 2
  have y3 := y.cell 3
  refine bodyPost_ret (v := .agg #[.int .u64 (wdI s 0), .int .u64 (wdI s 1), .int .u64 (wdI s 2), .int .u64 (wdI s 3)]) (by simp [results, Tryz.results66, go_sem, y0, y1, y2, y3]) rfl ⟨rfl, ?_⟩
  exact below_set4 HB.out (by omega) _ _ _ _

theorem cset_put (s u : BS) (i : Nat) (hi : i < 4) (h : ∀ k, k < 4 → k ≠ i → wdI u k = wdI s k) : (cset s).setIfInBounds i (.int .u64 (wdI u i)) = cset u := by
  have : i = 0 ∨ i = 1 ∨ i = 2 ∨ i = 3 := by omega
  rcases this with rfl | rfl | rfl | rfl
  · have h1 := h 1 (by omega) (by omega); have h2 := h 2 (by omega) (by omega); have h3 := h 3 (by omega) (by omega)
    unfold cset; rw [h1, h2, h3]; rfl
  · have h1 := h 0 (by omega) (by omega); have h2 := h 2 (by omega) (by omega); have h3 := h 3 (by omega) (by omega)
    unfold cset; rw [h1, h2, h3]; rfl
  · have h1 := h 0 (by omega) (by omega); have h2 := h 1 (by omega) (by omega); have h3 := h 3 (by omega) (by omega)
    unfold cset; rw [h1, h2, h3]; rfl
  · have h1 := h 0 (by omega) (by omega); have h2 := h 1 (by omega) (by omega); have h3 := h 2 (by omega) (by omega)
    unfold cset; rw [h1, h2, h3]; rfl

set_option maxRecDepth 100000 in
set_option maxHeartbeats 2000000 in
theorem rwith_new (s : BS) (b : Nat) (hb : b < 256) (hs : s.getLsbD b = false) (w : World) : Calls Tryz.prog 66 #[vset s, .int .i64 b] w fun e w' => e = .returned (vset (withB s b)) ∧ Below w.heap.size w w' := by
  have HH := Lib.hid (fun w' => rhas_any s b hb w')
  have HI : Hid (IntKind.u64.wrap (wdI s (b / 64) + IntKind.u64.wrap (2 ^ (b % 64))) = wdI (withB s b) (b / 64)) := wdI_add s b _ hb rfl hs
  have HO : Hid (∀ i, i < 4 → i ≠ b / 64 → wdI (withB s b) i = wdI s i) := fun i _ h => wdI_with_other s b i hb (fun e => h e.symm)
  rw [hs] at HH
  clear hs
  obtain ⟨u, hu⟩ : ∃ u, u = withB s b := ⟨_, rfl⟩
  rw [← hu] at HI HO ⊢
  clear hu
  unfold vset at HH ⊢
  go_enter Tryz.func66, Tryz.ntmps66
  go_wp2_with fail
  refine (HH.out _).mono ?_
  rintro e w1 ⟨rfl, hB1⟩
  have hA := Lib.hid (((Blk.new w 33 (cset s)).alloc (.cells #[.int .u64 0, .int .u64 0, .int .u64 0, .int .u64 0] 33)).below hB1 (by simp; omega))
  have hZ0 := (Blk.new (w.alloc (.cells (cset s) 33)) 33 zcs).below hB1 (by simp)
  rw [World.size_alloc] at hZ0
  have hZ := Lib.hid hZ0
  have HB := Lib.hid ((((Below.refl _ w).alloc (Nat.le_refl _) (.cells (cset s) 33)).alloc (by simp) (.cells zcs 33)).trans (hB1.mono (by simp; omega)))
  clear hZ0 hB1 HH
  have hcat := cells_at s (b / 64) (by omega)
  have hcell : w1.cell? ⟨w.heap.size, b / 64, none⟩ = some (.int .u64 (wdI s (b / 64))) := by
    rw [hA.out.cell]; unfold cset; simpa using hcat
  have hfr := hA.out.frozen (b / 64)
  have hk := HI.out
  clear hcat
  go_wp2
  go_region
  have hA2 : Blk (w1.setCell ⟨w.heap.size, b / 64, none⟩ (.int .u64 (wdI u (b / 64)))).drew w.heap.size 33 (cset u) := by
    have h := hA.out.set (b / 64) (.int .u64 (wdI u (b / 64)))
    rw [cset_put s u (b / 64) (by omega) HO.out] at h
    exact h
  have hZ2 : Blk (w1.setCell ⟨w.heap.size, b / 64, none⟩ (.int .u64 (wdI u (b / 64)))).drew (w.heap.size + 1) 33 zcs := hZ.out.other (a := ⟨w.heap.size, b / 64, none⟩) (by simp) _
  have hB2 : Below w.heap.size w (w1.setCell ⟨w.heap.size, b / 64, none⟩ (.int .u64 (wdI u (b / 64)))).drew := (HB.out.setCell (p := ⟨w.heap.size, b / 64, none⟩) (Nat.le_refl _) _).drew
  obtain ⟨w2, hw2⟩ : ∃ w2, w2 = (w1.setCell ⟨w.heap.size, b / 64, none⟩ (.int .u64 (wdI u (b / 64)))).drew := ⟨_, rfl⟩
  rw [← hw2] at hA2 hZ2 hB2 ⊢
  have HA2 := Lib.hid hA2
  have HZ2 := Lib.hid hZ2
  have HB2 := Lib.hid hB2
  clear hw2 hcell hfr hk hA hZ HB HI HO hA2 hZ2 hB2
  have c0 : w2.cell? ⟨w.heap.size, 0, none⟩ = some (.int .u64 (wdI u 0)) := HA2.out.cell 0
  have c1 : w2.cell? ⟨w.heap.size, 1, none⟩ = some (.int .u64 (wdI u 1)) := HA2.out.cell 1
  have c2 : w2.cell? ⟨w.heap.size, 2, none⟩ = some (.int .u64 (wdI u 2)) := HA2.out.cell 2
  have c3 : w2.cell? ⟨w.heap.size, 3, none⟩ = some (.int .u64 (wdI u 3)) := HA2.out.cell 3
  have z0 : w2.cell? ⟨w.heap.size + 1, 0, none⟩ = some (.int .u64 0) := HZ2.out.cell 0
  have z1 : w2.cell? ⟨w.heap.size + 1, 1, none⟩ = some (.int .u64 0) := HZ2.out.cell 1
  have z2 : w2.cell? ⟨w.heap.size + 1, 2, none⟩ = some (.int .u64 0) := HZ2.out.cell 2
  have z3 : w2.cell? ⟨w.heap.size + 1, 3, none⟩ = some (.int .u64 0) := HZ2.out.cell 3
  have fz : ∀ i, w2.frozen? ⟨w.heap.size + 1, i, none⟩ = false := HZ2.out.frozen
  go_wp2
  have y := Blk.set4 HZ2.out (.int .u64 (wdI u 0)) (.int .u64 (wdI u 1)) (.int .u64 (wdI u 2)) (.int .u64 (wdI u 3))
  have y0 := y.cell 0
  have y1 := y.cell 1
  have y2 := y.cell 2
  have y3 := y.cell 3
  refine bodyPost_ret (v := .agg #[.int .u64 (wdI u 0), .int .u64 (wdI u 1), .int .u64 (wdI u 2), .int .u64 (wdI u 3)]) (by simp [results, Tryz.results66, go_sem, y0, y1, y2, y3]) rfl ⟨rfl, ?_⟩
  exact below_set4 HB2.out (by omega) _ _ _ _

theorem rwith_any (s : BS) (b : Nat) (hb : b < 256) (w : World) : Calls Tryz.prog 66 #[vset s, .int .i64 b] w fun e w' => e = .returned (vset (withB s b)) ∧ Below w.heap.size w w' := by
  cases h : s.getLsbD b with
  | true => rw [withB_has s b hb h]; exact rwith_old s b hb h w
  | false => exact rwith_new s b hb h w
end Go.Proofs.YtdodkbpagbblmaaGreatDoor
end
section
namespace Go.Proofs.YtdodkbpagbblmaaGreatDoor
open Go Go.RowKit

theorem conv_one (b : Nat) (g : Nat) (w : World) (hg : w.cell? ⟨g, 0, none⟩ = some (.int .u8 b)) : (convert 58 9 (.slice (some ⟨g, 0, none⟩) 1 1)).run Tryz.prog w = .ok (.string (bytesStr [b])) w := by
  refine run_convert_bytes_arg w 58 5 Tryz.underlying58 Tryz.underlying5 g 0 1 1 [(b : Int)] rfl ?_ 9 Tryz.underlying9
  intro i hi
  obtain rfl : i = 0 := by omega
  simpa using hg
set_option maxRecDepth 100000 in
set_option maxHeartbeats 4000000 in
theorem rone_any (b : Nat) (hb : b < 256) (w : World) : Calls Tryz.prog 75 #[.int .u8 b] w fun e w' => e = .returned (.string (bytesStr (byteT b))) ∧ Below w.heap.size w w' := by
  by_cases c1 : b = 9
  · subst c1
    go_enter Tryz.func75, Tryz.ntmps75
    go_wp2
    go_ret
    exact ⟨rfl, Below.refl _ _⟩
  · by_cases c2 : b = 10
    · subst c2
      go_enter Tryz.func75, Tryz.ntmps75
      go_wp2
      go_ret
      exact ⟨rfl, Below.refl _ _⟩
    · by_cases c3 : b = 13
      · subst c3
        go_enter Tryz.func75, Tryz.ntmps75
        go_wp2
        go_ret
        exact ⟨rfl, Below.refl _ _⟩
      · have d1 : ((b : Int) == 9) = false := by simp; omega
        have d2 : ((b : Int) == 10) = false := by simp; omega
        have d3 : ((b : Int) == 13) = false := by simp; omega
        have HC1 := conv_one b w.heap.size (w.alloc (.cells #[.int .u8 b] 5)) ((Blk.new w 5 #[.int .u8 b]).cell 0)
        by_cases hsg : signB b = true
        · have hE : Hid (byteT b = [92, b]) := by refine Lib.hid ?_; unfold byteT; rw [if_neg c1, if_neg c2, if_neg c3, if_pos hsg]
          have hS : Hid (bytesStr [92] ++ bytesStr [b] = bytesStr [92, b]) := bytesStr_append [92] [b]
          have hcs : b = 92 ∨ b = 91 ∨ b = 93 ∨ b = 45 ∨ b = 94 := by
            unfold signB at hsg; simp only [Bool.or_eq_true, beq_iff_eq] at hsg; omega
          have hz1 : (bytesStr [b]).size = 1 := bytesStr_size [b]
          clear hsg c1 c2 c3
          rcases hcs with e | e | e | e | e
          · have q0 : ((b : Int) == 92) = true := by rw [e]; rfl
            clear e
            go_enter Tryz.func75, Tryz.ntmps75
            go_wp2
            go_ret
            exact ⟨by rw [hE.out, ← hS.out]; rfl, (Below.refl _ w).alloc (Nat.le_refl _) _⟩
          · have q0 : ((b : Int) == 92) = false := by rw [e]; rfl
            have q1 : ((b : Int) == 91) = true := by rw [e]; rfl
            clear e
            go_enter Tryz.func75, Tryz.ntmps75
            go_wp2
            go_ret
            exact ⟨by rw [hE.out, ← hS.out]; rfl, (Below.refl _ w).alloc (Nat.le_refl _) _⟩
          · have q0 : ((b : Int) == 92) = false := by rw [e]; rfl
            have q1 : ((b : Int) == 91) = false := by rw [e]; rfl
            have q2 : ((b : Int) == 93) = true := by rw [e]; rfl
            clear e
            go_enter Tryz.func75, Tryz.ntmps75
            go_wp2
            go_ret
            exact ⟨by rw [hE.out, ← hS.out]; rfl, (Below.refl _ w).alloc (Nat.le_refl _) _⟩
          · have q0 : ((b : Int) == 92) = false := by rw [e]; rfl
            have q1 : ((b : Int) == 91) = false := by rw [e]; rfl
            have q2 : ((b : Int) == 93) = false := by rw [e]; rfl
            have q3 : ((b : Int) == 45) = true := by rw [e]; rfl
            clear e
            go_enter Tryz.func75, Tryz.ntmps75
            go_wp2
            go_ret
            exact ⟨by rw [hE.out, ← hS.out]; rfl, (Below.refl _ w).alloc (Nat.le_refl _) _⟩
          · have q0 : ((b : Int) == 92) = false := by rw [e]; rfl
            have q1 : ((b : Int) == 91) = false := by rw [e]; rfl
            have q2 : ((b : Int) == 93) = false := by rw [e]; rfl
            have q3 : ((b : Int) == 45) = false := by rw [e]; rfl
            have q4 : ((b : Int) == 94) = true := by rw [e]; rfl
            clear e
            go_enter Tryz.func75, Tryz.ntmps75
            go_wp2
            go_ret
            exact ⟨by rw [hE.out, ← hS.out]; rfl, (Below.refl _ w).alloc (Nat.le_refl _) _⟩
        · have hs1 : ((b : Int) == 92) = false := by unfold signB at hsg; simp at hsg ⊢; omega
          have hs2 : ((b : Int) == 91) = false := by unfold signB at hsg; simp at hsg ⊢; omega
          have hs3 : ((b : Int) == 93) = false := by unfold signB at hsg; simp at hsg ⊢; omega
          have hs4 : ((b : Int) == 45) = false := by unfold signB at hsg; simp at hsg ⊢; omega
          have hs5 : ((b : Int) == 94) = false := by unfold signB at hsg; simp at hsg ⊢; omega
          by_cases c5 : 32 < b ∧ b ≤ 126
          · have hE : Hid (byteT b = [b]) := by refine Lib.hid ?_; unfold byteT; rw [if_neg c1, if_neg c2, if_neg c3, if_neg hsg, if_pos c5]
            obtain ⟨c5, c6⟩ := c5
            have k1 : decide ((32 : Int) < (b : Int)) = true := by simp; omega
            have k2 : decide ((b : Int) < 127) = true := by simp; omega
            clear hsg c1 c2 c3
            go_enter Tryz.func75, Tryz.ntmps75
            go_wp2
            go_ret
            exact ⟨by rw [hE.out]; rfl, (Below.refl _ w).alloc (Nat.le_refl _) _⟩
          · have hE : Hid (byteT b = [92, 120, hexC (b / 16), hexC (b % 16)]) := by refine Lib.hid ?_; unfold byteT; rw [if_neg c1, if_neg c2, if_neg c3, if_neg hsg, if_neg c5]
            have hS : Hid (bytesStr [92, 120] ++ bytesStr [hexC (b / 16), hexC (b % 16)] = bytesStr [92, 120, hexC (b / 16), hexC (b % 16)]) := bytesStr_append [92, 120] [hexC (b / 16), hexC (b % 16)]
            have hI1 : ∀ w', (Instr.index 9 (.string ⟨#[48, 49, 50, 51, 52, 53, 54, 55, 56, 57, 97, 98, 99, 100, 101, 102]⟩) (.int .u8 ((b : Int) / 16))).run Tryz.prog w' = .ok (.int .u8 (hexC (b / 16) : Nat)) w' := by
              rw [show ((b : Int) / 16) = ((b / 16 : Nat) : Int) by omega]; exact hex_ix (b / 16) (by omega)
            have hI2 : ∀ w', (Instr.index 9 (.string ⟨#[48, 49, 50, 51, 52, 53, 54, 55, 56, 57, 97, 98, 99, 100, 101, 102]⟩) (.int .u8 ((b : Int) % 16))).run Tryz.prog w' = .ok (.int .u8 (hexC (b % 16) : Nat)) w' := by
              rw [show ((b : Int) % 16) = ((b % 16 : Nat) : Int) by omega]; exact hex_ix (b % 16) (by omega)
            obtain ⟨x, hx⟩ : ∃ x, x = hexC (b / 16) := ⟨_, rfl⟩
            obtain ⟨y, hy⟩ : ∃ y, y = hexC (b % 16) := ⟨_, rfl⟩
            rw [← hx, ← hy] at hE hS
            rw [← hx] at hI1
            rw [← hy] at hI2
            have HC2 := fun (W : World) (h0 : W.cell? ⟨w.heap.size, 0, none⟩ = some (.int .u8 x)) (h1 : W.cell? ⟨w.heap.size, 1, none⟩ = some (.int .u8 y)) => conv_two x y w.heap.size W h0 h1
            have HC3 : (convert 58 9 (.slice (some ⟨w.heap.size, 0, none⟩) 2 2)).run Tryz.prog (w.alloc (.cells #[.int .u8 x, .int .u8 y] 5)).drew = .ok (.string (bytesStr [x, y])) (w.alloc (.cells #[.int .u8 x, .int .u8 y] 5)).drew := HC2 _ ((Blk.new w 5 #[.int .u8 x, .int .u8 y]).cell 0) ((Blk.new w 5 #[.int .u8 x, .int .u8 y]).cell 1)
            have hz2 : (bytesStr [x, y]).size = 2 := bytesStr_size [x, y]
            clear hx hy HC1 HC2 hsg
            by_cases c6 : 32 < b
            · have k1 : decide ((32 : Int) < (b : Int)) = true := by simp; omega
              have k2 : decide ((b : Int) < 127) = false := by simp; omega
              clear c1 c2 c3
              go_enter Tryz.func75, Tryz.ntmps75
              go_wp2
              go_region
              all_goals go_wp2
              all_goals go_ret
              all_goals exact ⟨by rw [hE.out, ← hS.out]; rfl, ((Below.refl _ w).alloc (Nat.le_refl _) _).drew⟩
            · have k1 : decide ((32 : Int) < (b : Int)) = false := by simp; omega
              clear c1 c2 c3
              go_enter Tryz.func75, Tryz.ntmps75
              go_wp2
              go_region
              all_goals go_wp2
              all_goals go_ret
              all_goals exact ⟨by rw [hE.out, ← hS.out]; rfl, ((Below.refl _ w).alloc (Nat.le_refl _) _).drew⟩
end Go.Proofs.YtdodkbpagbblmaaGreatDoor
end
section
namespace Go.Proofs.YtdodkbpagbblmaaGreatDoor
open Go Go.RowKit

/-- What the document's Byte tells. -/
def rbyteV (l : List UInt8) (n : Nat) : Value :=
  if (byteB (l.drop n)).2 = 0 then .tuple #[.int .i64 (-1), .int .i64 n] else .tuple #[.int .i64 (byteB (l.drop n)).1, .int .i64 ((n + (byteB (l.drop n)).2 : Nat) : Int)]

theorem byteT_ne (b : Nat) (hb : b < 256) : (byteT b).map UInt8.ofNat ≠ [92] := by
  have h : ∀ b : Fin 256, (byteT b.val).map UInt8.ofNat ≠ [92] := by decide +kernel
  exact h ⟨b, hb⟩

/-- Where nothing is read. -/
theorem rbyte_none (l : List UInt8) (n : Nat) (hno : ∀ b', b' < 256 → ¬ matchB (l.drop n) b') (h1 : ∀ c r, l.drop n = c :: r → c.toNat ≠ 32)
    (h2 : ∀ c d x y r, l.drop n = c :: d :: x :: y :: r → c.toNat = 92 → d.toNat = 120 → hexD x.toNat ≠ none → hexD y.toNat ≠ none → False) : rbyteV l n = .tuple #[.int .i64 (-1), .int .i64 n] := by
  unfold rbyteV
  by_cases h : (byteB (l.drop n)).2 = 0
  · rw [if_pos h]
  · rcases byteB_match _ h with hm | ⟨c, r, e, hc⟩ | ⟨c, d, x, y, r, e, hc, hd, hx, hy⟩
    · exact absurd hm (hno _ (byteB_lt _).1)
    · exact absurd hc (h1 c r e)
    · exact (h2 c d x y r e hc hd hx hy).elim
theorem rbyte_blank (l : List UInt8) (n : Nat) (c : UInt8) (r : List UInt8) (e : l.drop n = c :: r) (hc : c.toNat = 32) : rbyteV l n = .tuple #[.int .i64 32, .int .i64 ((n + 1 : Nat) : Int)] := by
  unfold rbyteV
  have hs : signB 32 = false := by decide
  have hb : byteB (c :: r) = (32, 1) := by simp [byteB, hc, hs]
  rw [e, hb]; rfl
theorem rbyte_hex (l : List UInt8) (n : Nat) (c d x y : UInt8) (r : List UInt8) (a b : Nat) (e : l.drop n = c :: d :: x :: y :: r) (hc : c.toNat = 92) (hd : d.toNat = 120) (hx : hexD x.toNat = some a) (hy : hexD y.toNat = some b) :
    rbyteV l n = .tuple #[.int .i64 ((16 * a + b : Nat) : Int), .int .i64 ((n + 4 : Nat) : Int)] := by
  unfold rbyteV
  have h1 := hexD_lt _ (UInt8.toNat_lt x) a hx
  have h2 := hexD_lt _ (UInt8.toNat_lt y) b hy
  have hk : hexs 0 [x, y] = some (16 * a + b) := by rw [hexs_two, hx, hy]
  have n1 : signB 120 = false := by decide
  have hb : byteB (c :: d :: x :: y :: r) = (16 * a + b, 4) := by
    simp [byteB, escB, hc, hd, n1, hk]; omega
  rw [e, hb]; rfl

theorem drop_cons (s : ByteArray) (n : Nat) (h : n < s.size) : s.data.toList.drop n = s[n] :: s.data.toList.drop (n + 1) := by
  rw [List.drop_eq_getElem_cons (by rw [← Lib.size_eq]; exact h)]; rfl

theorem match_extract (s : ByteArray) (n b : Nat) (hb : b < 256) (hn : n + (byteT b).length ≤ s.size) : matchB (s.data.toList.drop n) b ↔ (s.extract n (n + (byteT b).length)).data.toList = (bytesStr (byteT b)).data.toList := by
  have hT : ∀ x ∈ byteT b, x < 256 := by
    have h : ∀ b : Fin 256, ∀ x ∈ byteT b.val, x < 256 := by decide +kernel
    exact h ⟨b, hb⟩
  rw [bytesStr_list, ByteArray.data_extract, Array.toList_extract, List.extract_eq_take_drop, Nat.add_sub_cancel_left]
  unfold matchB
  rw [List.prefix_iff_eq_take, ← List.map_take]
  constructor
  · intro h
    have h2 := congrArg (List.map UInt8.ofNat) h
    have h3 : (UInt8.ofNat ∘ UInt8.toNat) = id := by funext x; simp
    rw [List.map_map, h3, List.map_id] at h2
    exact h2.symm
  · intro h
    rw [h, List.map_map]
    have : (byteT b).map (UInt8.toNat ∘ UInt8.ofNat) = (byteT b).map id := by
      apply List.map_congr_left
      intro x hx
      have := hT x hx
      simp; omega
    rw [this]; simp

theorem match_len (s : ByteArray) (n b : Nat) (hn : n ≤ s.size) (h : matchB (s.data.toList.drop n) b) : n + (byteT b).length ≤ s.size := by
  unfold matchB at h
  have := h.length_le
  rw [List.length_map, List.length_drop, ← Lib.size_eq] at this
  omega

set_option maxRecDepth 100000 in
set_option maxHeartbeats 8000000 in
theorem rbyte_any (s : ByteArray) (n : Nat) (hn : n ≤ s.size) (hs : s.size ≤ 5000) (w : World) :
    Calls Tryz.prog 65 #[.string s, .int .i64 n] w fun e w' => e = .returned (rbyteV s.data.toList n) ∧ Below w.heap.size w w' := by
  have HM : Hid (∀ b, b < 256 → matchB (s.data.toList.drop n) b → n + (byteT b).length ≤ s.size ∧ (s.extract n (n + (byteT b).length)).data.toList = (bytesStr (byteT b)).data.toList ∧ rbyteV s.data.toList n = .tuple #[.int .i64 b, .int .i64 ((n + (byteT b).length : Nat) : Int)]) := by
    refine Lib.hid fun b hb h => ?_
    have h1 := match_len s n b hn h
    refine ⟨h1, (match_extract s n b hb h1).1 h, ?_⟩
    have h2 := match_byteB _ b hb h
    have h3 : (byteT b).length ≠ 0 := by
      rcases byteT_cases b with ⟨_, e⟩ | ⟨_, e⟩ | ⟨_, e⟩ | ⟨_, e⟩ | ⟨_, _, e⟩ | e <;> rw [e] <;> simp
    unfold rbyteV
    rw [h2, if_neg h3]
  have HN : Hid (∀ b, b < 256 → ¬ matchB (s.data.toList.drop n) b → s.size < n + (byteT b).length ∨ (s.extract n (n + (byteT b).length)).data.toList ≠ (bytesStr (byteT b)).data.toList) := by
    refine Lib.hid fun b hb h => ?_
    by_cases h1 : n + (byteT b).length ≤ s.size
    · exact .inr fun e => h ((match_extract s n b hb h1).2 e)
    · exact .inl (by omega)
  go_enter Tryz.func65, Tryz.ntmps65
  go_wp2
  go_loopw [6] (fun i wr => ∃ (b : Nat), i = .int .i64 b ∧ b ≤ 256 ∧ Hid (∀ b', b' < b → ¬ matchB (s.data.toList.drop n) b') ∧ Hid (Below w.heap.size w wr))
    (fun i _ => 256 - (intOf i).toNat)
  case atStart => exact ⟨0, rfl, Nat.zero_le _, fun b' h => absurd h (by omega), Below.refl _ _⟩
  case round =>
    obtain ⟨b, rfl, hb, hno, hB⟩ := hrel
    by_cases hlt : b < 256
    · have HO := fun w' => Lib.hid (rone_any b hlt w')
      have HMb := Lib.hid (HM.out b hlt)
      have HNb := Lib.hid (HN.out b hlt)
      have HNe := Lib.hid (byteT_ne b hlt)
      have hXs := bytesStr_size (byteT b)
      have hXl := Lib.hid (bytesStr_list (byteT b))
      have hlen := byteT_len b
      obtain ⟨T, hT⟩ : ∃ T, T = byteT b := ⟨_, rfl⟩
      rw [← hT] at HO HMb HNb HNe hXs hXl hlen
      obtain ⟨X, hX⟩ : ∃ X, X = bytesStr T := ⟨_, rfl⟩
      rw [← hX] at HO HMb HNb hXs hXl
      obtain ⟨m, hm⟩ : ∃ m, m = T.length := ⟨_, rfl⟩
      rw [← hm] at HMb HNb hXs hlen
      have HmT := Lib.hid hm
      clear hT hX hm
      have hcv : IntKind.u8.wrap (b : Int) = (b : Int) := by rw [IntKind.wrap_u8']; omega
      by_cases hmt : matchB (s.data.toList.drop n) b
      · obtain ⟨q1, q2, q3⟩ := HMb.out hmt
        have q4 : ((s.extract n (n + m)).toList == X.toList) = true := by
          rw [ByteArray.toList_eq, ByteArray.toList_eq, q2]; simp
        have q5 : (X.toList == [92]) = false := by
          rw [ByteArray.toList_eq, hXl.out, beq_eq_false_iff_ne]
          exact HNe.out
        have Q3 := Lib.hid q3
        have q6 : (m : Int) ≤ (s.size : Int) - (n : Int) := by omega
        clear q2 q3 HMb HNb HM HN hmt hno
        go_wp2_with fail
        refine (HO _).out.mono ?_
        rintro e w1 ⟨rfl, hB1⟩
        have HB1 := Lib.hid (hB.out.trans (hB1.mono hB.out.size))
        clear HO hB hB1
        go_wp2
        go_ret2
        exact ⟨by rw [Q3.out]; simp, HB1.out⟩
      · have hno2 : Hid (∀ b', b' < b + 1 → ¬ matchB (s.data.toList.drop n) b') := by
          refine Lib.hid fun b' h => ?_
          by_cases e : b' = b
          · subst e; exact hmt
          · exact hno.out b' (by omega)
        rcases HNb.out hmt with h | h
        · have q6 : ¬ (m : Int) ≤ (s.size : Int) - (n : Int) := by omega
          clear h HMb HNb HM HN hmt hno
          go_wp2_with fail
          refine (HO _).out.mono ?_
          rintro e w1 ⟨rfl, hB1⟩
          have HB1 := Lib.hid (hB.out.trans (hB1.mono hB.out.size))
          clear HO hB hB1
          go_wp2
          go_roundw
          case rel => exact ⟨b + 1, by go_num, by omega, hno2, HB1⟩
          case measure => simp [intOf]; omega
        · by_cases hfit : n + m ≤ s.size
          · have q4 : ((s.extract n (n + m)).toList == X.toList) = false := by
              rw [ByteArray.toList_eq, ByteArray.toList_eq, beq_eq_false_iff_ne]; exact h
            have q6 : (m : Int) ≤ (s.size : Int) - (n : Int) := by omega
            clear h HMb HNb HM HN hmt hno
            go_wp2_with fail
            refine (HO _).out.mono ?_
            rintro e w1 ⟨rfl, hB1⟩
            have HB1 := Lib.hid (hB.out.trans (hB1.mono hB.out.size))
            clear HO hB hB1
            go_wp2
            go_roundw
            case rel => exact ⟨b + 1, by go_num, by omega, hno2, HB1⟩
            case measure => simp [intOf]; omega
          · have q6 : ¬ (m : Int) ≤ (s.size : Int) - (n : Int) := by omega
            clear h HMb HNb HM HN hmt hno
            go_wp2_with fail
            refine (HO _).out.mono ?_
            rintro e w1 ⟨rfl, hB1⟩
            have HB1 := Lib.hid (hB.out.trans (hB1.mono hB.out.size))
            clear HO hB hB1
            go_wp2
            go_roundw
            case rel => exact ⟨b + 1, by go_num, by omega, hno2, HB1⟩
            case measure => simp [intOf]; omega
    · obtain rfl : b = 256 := by omega
      clear HM HN
      by_cases hns : n < s.size
      · have hcons := drop_cons s n hns
        by_cases k32 : s[n].toNat = 32
        · have HV := Lib.hid (rbyte_blank _ n _ _ hcons k32)
          have e32 : ((s[n].toNat : Int) == 32) = true := by simp; omega
          clear hcons k32 hno
          go_wp2
          go_ret2
          exact ⟨by rw [HV.out]; simp, hB.out⟩
        · have e32 : ((s[n].toNat : Int) == 32) = false := by simp; omega
          have h1 : ∀ c r, s.data.toList.drop n = c :: r → c.toNat ≠ 32 := by
            intro c r e
            rw [hcons] at e
            cases e
            exact k32
          by_cases h4 : n + 4 ≤ s.size
          · have hcons2 := drop_cons s (n + 1) (by omega)
            have hcons3 := drop_cons s (n + 1 + 1) (by omega)
            have hcons4 := drop_cons s (n + 1 + 1 + 1) (by omega)
            have g4 : (4 : Int) ≤ (s.size : Int) - (n : Int) := by omega
            have hall : s.data.toList.drop n = s[n] :: s[n + 1] :: s[n + 2] :: s[n + 3] :: s.data.toList.drop (n + 4) := by rw [hcons, hcons2, hcons3, hcons4]
            have hx1 : n + 1 < s.size := by omega
            have hx2 : n + 2 < s.size := by omega
            have hx3 : n + 3 < s.size := by omega
            clear hcons hcons2 hcons3 hcons4
            have hneg : (s[n].toNat ≠ 92 ∨ s[n + 1].toNat ≠ 120 ∨ hexD s[n + 2].toNat = none ∨ hexD s[n + 3].toNat = none) → Hid (rbyteV s.data.toList n = .tuple #[.int .i64 (-1), .int .i64 n]) := fun hh => Lib.hid (rbyte_none _ n hno.out h1 (fun c d x y r e hc hd hx hy => by
              rw [hall] at e
              cases e
              rcases hh with h | h | h | h
              · exact h hc
              · exact h hd
              · exact hx h
              · exact hy h))
            by_cases k92 : s[n].toNat = 92
            · have e92 : ((s[n].toNat : Int) == 92) = true := by simp; omega
              by_cases k120 : s[n + 1].toNat = 120
              · have e120 : ((s[n + 1].toNat : Int) == 120) = true := by simp; omega
                have hw2 : IntKind.i64.wrap ((n : Int) + 2) = (n : Int) + 2 := IntWalk.i64_in _ (by omega)
                have hw3 : IntKind.i64.wrap ((n : Int) + 3) = (n : Int) + 3 := IntWalk.i64_in _ (by omega)
                have hp2 : (n : Int) + 2 < (s.size : Int) := by omega
                have hp3 : (n : Int) + 3 < (s.size : Int) := by omega
                have hp4 : (0 : Int) ≤ (n : Int) + 2 := by omega
                have hp5 : (0 : Int) ≤ (n : Int) + 3 := by omega
                have hv2 : ((n : Int) + 2).toNat = n + 2 := by omega
                have hv3 : ((n : Int) + 3).toNat = n + 3 := by omega
                have R2 := fun w' => Lib.hid (rhex_any s[n + 2].toNat (UInt8.toNat_lt _) w')
                have R3 := fun w' => Lib.hid (rhex_any s[n + 3].toNat (UInt8.toNat_lt _) w')
                cases hx : hexD s[n + 2].toNat with
                | none =>
                  have HV := hneg (.inr (.inr (.inl hx)))
                  have z2 : hexZ s[n + 2].toNat = -1 := by unfold hexZ; rw [hx]
                  clear hall h1 hno hneg hx k92 k120 k32
                  go_wp2_with fail
                  go_region_held3 (fun _ => True) (exact trivial) (first | (go_at_call 87; (with_reducible refine (R2 _).out.mono ?_); rintro e w' ⟨rfl, rfl⟩) | (go_at_call 87; (with_reducible refine (R3 _).out.mono ?_); rintro e w' ⟨rfl, rfl⟩))
                  all_goals go_wp2
                  all_goals go_ret2
                  all_goals exact ⟨by rw [HV.out]; rfl, hB.out.drew⟩
                | some a =>
                  have ha := hexD_lt _ (UInt8.toNat_lt _) a hx
                  have z2 : hexZ s[n + 2].toNat = (a : Int) := by unfold hexZ; rw [hx]
                  have z2a : (0 : Int) ≤ (a : Int) := by omega
                  have z2b : (a : Int) < 16 := by omega
                  cases hy : hexD s[n + 3].toNat with
                  | none =>
                    have HV := hneg (.inr (.inr (.inr hy)))
                    have z3 : hexZ s[n + 3].toNat = -1 := by unfold hexZ; rw [hy]
                    clear hall h1 hno hneg hx hy k92 k120 k32 ha
                    go_wp2_with fail
                    go_region_held3 (fun _ => True) (exact trivial) (first | (go_at_call 87; (with_reducible refine (R2 _).out.mono ?_); rintro e w' ⟨rfl, rfl⟩) | (go_at_call 87; (with_reducible refine (R3 _).out.mono ?_); rintro e w' ⟨rfl, rfl⟩))
                    all_goals go_wp2
                    all_goals go_ret2
                    all_goals exact ⟨by rw [HV.out]; rfl, hB.out.drew⟩
                  | some b =>
                    have hb' := hexD_lt _ (UInt8.toNat_lt _) b hy
                    have z3 : hexZ s[n + 3].toNat = (b : Int) := by unfold hexZ; rw [hy]
                    have z3a : (0 : Int) ≤ (b : Int) := by omega
                    have z3b : (b : Int) < 16 := by omega
                    have HV := Lib.hid (rbyte_hex _ n _ _ _ _ _ a b hall k92 k120 hx hy)
                    clear hall h1 hno hneg hx hy k92 k120 k32 ha hb'
                    go_wp2_with fail
                    go_region_held3 (fun _ => True) (exact trivial) (first | (go_at_call 87; (with_reducible refine (R2 _).out.mono ?_); rintro e w' ⟨rfl, rfl⟩) | (go_at_call 87; (with_reducible refine (R3 _).out.mono ?_); rintro e w' ⟨rfl, rfl⟩))
                    all_goals go_wp2
                    all_goals go_ret2
                    all_goals exact ⟨by rw [HV.out]; simp, hB.out.drew⟩
              · have HV := hneg (.inr (.inl k120))
                have e120 : ((s[n + 1].toNat : Int) == 120) = false := by simp; omega
                clear hall h1 hno hneg k92 k120 k32
                go_wp2
                go_ret2
                exact ⟨by rw [HV.out]; rfl, hB.out⟩
            · have HV := hneg (.inl k92)
              have e92 : ((s[n].toNat : Int) == 92) = false := by simp; omega
              clear hall h1 hno hneg k92 k32
              go_wp2
              go_ret2
              exact ⟨by rw [HV.out]; rfl, hB.out⟩
          · have HV := Lib.hid (rbyte_none _ n hno.out h1 (fun c d x y r e _ _ _ _ => by
              have := congrArg List.length e
              rw [List.length_drop, ← Lib.size_eq] at this
              simp at this
              omega))
            have g4 : ¬ (4 : Int) ≤ (s.size : Int) - (n : Int) := by omega
            clear hcons k32 hno h1
            go_wp2
            go_ret2
            exact ⟨by rw [HV.out]; rfl, hB.out⟩
      · have HV := Lib.hid (rbyte_none s.data.toList n hno.out (fun c r e => by rw [List.drop_eq_nil_of_le (by rw [← Lib.size_eq]; omega)] at e; cases e) (fun c d x y r e => by rw [List.drop_eq_nil_of_le (by rw [← Lib.size_eq]; omega)] at e; cases e))
        have g4 : ¬ (4 : Int) ≤ (s.size : Int) - (n : Int) := by omega
        clear hno
        go_wp2
        go_ret2
        exact ⟨by rw [HV.out]; rfl, hB.out⟩
end Go.Proofs.YtdodkbpagbblmaaGreatDoor
end
section
namespace Go.Proofs.YtdodkbpagbblmaaGreatDoor
open Go Go.RowKit

theorem pre1_cons (c x : UInt8) (t : List UInt8) : Lib.hasPrefix (c :: t) [x] = (c == x) := by
  show ((x == c) && true) = (c == x)
  rw [Bool.and_true, Bool.eq_iff_iff, beq_iff_eq, beq_iff_eq]
  exact eq_comm
theorem pre1_nil (x : UInt8) : Lib.hasPrefix [] [x] = false := rfl

theorem items_fuel : ∀ (n : Nat) (l : List UInt8), l.length ≤ n → ∀ f u, l.length + 1 ≤ f → readItems f u l = readItems (l.length + 1) u l := by
  intro n
  induction n with
  | zero =>
    intro l hl f u hf
    have : l = [] := List.length_eq_zero_iff.1 (by omega)
    subst this
    obtain ⟨g, rfl⟩ : ∃ g, f = g + 1 := ⟨f - 1, by simp at hf; omega⟩
    rfl
  | succ n ih =>
    intro l hl f u hf
    obtain ⟨g, rfl⟩ : ∃ g, f = g + 1 := ⟨f - 1, by omega⟩
    unfold readItems
    split
    · rfl
    · split
      · rfl
      · rename_i h1 h2
        have hk := (itemB_lt l).2.2
        have hd : (l.drop (itemB l).2).length + 1 ≤ l.length := by rw [List.length_drop]; omega
        rw [ih (l.drop (itemB l).2) (by omega) g _ (by omega), ih (l.drop (itemB l).2) (by omega) l.length _ hd]

theorem items_step (l : List UInt8) (u : BS) (h93 : l ≠ [93]) (hk : (itemB l).2 ≠ 0) : readItems (l.length + 1) u l = readItems ((l.drop (itemB l).2).length + 1) (addR u (itemB l).1) (l.drop (itemB l).2) := by
  have h1 := (itemB_lt l).2.2
  have hd : (l.drop (itemB l).2).length + 1 ≤ l.length := by rw [List.length_drop]; omega
  conv => lhs; unfold readItems
  rw [if_neg h93, if_neg hk]
  exact items_fuel _ _ (Nat.le_refl _) _ _ hd
theorem items_bad (l : List UInt8) (u : BS) (h93 : l ≠ [93]) (hk : (itemB l).2 = 0) : readItems (l.length + 1) u l = none := by
  unfold readItems
  rw [if_neg h93, if_pos hk]
theorem items_end (u : BS) : readItems (([93] : List UInt8).length + 1) u [93] = some u := by
  unfold readItems; simp

theorem item_none (l : List UInt8) (h : (byteB l).2 = 0) : (itemB l).2 = 0 := by
  unfold itemB; rw [if_pos (.inl h)]; exact h
theorem item_one (l : List UInt8) (h : (byteB l).2 ≠ 0) (hp : Lib.hasPrefix (l.drop (byteB l).2) [45] = false) : itemB l = (((byteB l).1, (byteB l).1), (byteB l).2) := by
  unfold itemB; rw [if_pos (.inr hp)]
theorem item_wrong (l : List UInt8) (h : (byteB l).2 ≠ 0) (hp : Lib.hasPrefix (l.drop (byteB l).2) [45] = true) (hw : (byteB (l.drop ((byteB l).2 + 1))).2 = 0 ∨ (byteB (l.drop ((byteB l).2 + 1))).1 < (byteB l).1) : (itemB l).2 = 0 := by
  unfold itemB; rw [if_neg (by simp [h, hp]), if_pos hw]
theorem item_two (l : List UInt8) (h : (byteB l).2 ≠ 0) (hp : Lib.hasPrefix (l.drop (byteB l).2) [45] = true) (h1 : (byteB (l.drop ((byteB l).2 + 1))).2 ≠ 0) (h2 : ¬ (byteB (l.drop ((byteB l).2 + 1))).1 < (byteB l).1) :
    itemB l = (((byteB l).1, (byteB (l.drop ((byteB l).2 + 1))).1), (byteB l).2 + 1 + (byteB (l.drop ((byteB l).2 + 1))).2) := by
  unfold itemB; rw [if_neg (by simp [h, hp]), if_neg (by simp [h1, h2])]

theorem byteB_93 (t : List UInt8) : byteB (93 :: t) = (0, 0) := by
  have hs : signB 93 = true := by decide
  simp [byteB, hs]

/-- What the rest of a text says, behind its head. -/
def restS (neg : Bool) (o : Option BS) : Option BS := if neg then o.map (fun s => ~~~s) else o

theorem readS_short (l : List UInt8) (h : l.length < 2) : readS l = none := by
  unfold readS
  match l, h with
  | [], _ => rfl
  | [c], _ =>
    rw [pre1_cons]
    by_cases hc : c = 91
    · subst hc; decide
    · simp [hc]
theorem readS_head (l : List UInt8) (c : UInt8) (t : List UInt8) (e : l = c :: t) (h : c ≠ 91) : readS l = none := by
  unfold readS
  rw [e, pre1_cons]
  simp [h]
theorem readS_rest (l : List UInt8) (d : UInt8) (t : List UInt8) (e : l = 91 :: d :: t) :
    readS l = restS (d == 94) (readItems ((l.drop (if d = 94 then 2 else 1)).length + 1) 0#256 (l.drop (if d = 94 then 2 else 1))) := by
  subst e
  unfold readS
  rw [pre1_cons]
  have ht : Lib.trimPrefix (91 :: d :: t) [91] = d :: t := by unfold Lib.trimPrefix; rw [pre1_cons]; simp
  rw [ht, pre1_cons]
  by_cases hd : d = 94
  · subst hd
    have ht2 : Lib.trimPrefix (94 :: t) [94] = t := by unfold Lib.trimPrefix; rw [pre1_cons]; simp
    rw [ht2]
    simp [restS]
  · simp [restS, hd]
end Go.Proofs.YtdodkbpagbblmaaGreatDoor
end
section
namespace Go.Proofs.YtdodkbpagbblmaaGreatDoor
open Go Go.RowKit

theorem txt_next (L : List UInt8) (k1 j b n : Nat) (bs : List Nat) (hj : k1 ≤ j) (hT : textO (L.drop k1) = (textO (L.drop j)).map fun p => (bs ++ p.1, (j - k1) + p.2))
    (hp : Lib.hasPrefix (L.drop j) [34] = false) (hb : byteD (L.drop j) = (b, n)) (h0 : n ≠ 0) : textO (L.drop k1) = (textO (L.drop (j + n))).map fun p => ((bs ++ [b]) ++ p.1, (j + n - k1) + p.2) := by
  have hTS := textO_step _ hp (by rw [hb]; exact h0)
  rw [List.drop_drop, hb] at hTS
  rw [hT, hTS, Option.map_map]
  congr 1
  funext p
  simp only [Function.comp]
  rw [List.append_assoc]
  congr 1
  omega
theorem txt_bad (L : List UInt8) (k1 j : Nat) (bs : List Nat) (hT : textO (L.drop k1) = (textO (L.drop j)).map fun p => (bs ++ p.1, (j - k1) + p.2))
    (hp : Lib.hasPrefix (L.drop j) [34] = false) (hb : (byteD (L.drop j)).2 = 0) : textO (L.drop k1) = none := by
  rw [hT, textO_bad _ hp hb]; rfl
theorem txt_stop (L : List UInt8) (k1 j : Nat) (bs : List Nat) (hT : textO (L.drop k1) = (textO (L.drop j)).map fun p => (bs ++ p.1, (j - k1) + p.2))
    (hp : Lib.hasPrefix (L.drop j) [34] = true) : textO (L.drop k1) = some (bs, j - k1 + 1) := by
  rw [hT, textO_end _ hp]; simp

/-- What the document's text tells. -/
def txtV (k : Nat) : Option (List Nat × Nat) → Value
  | some p => .tuple #[.string (bytesStr p.1), .int .i64 ((k + 1 + p.2 : Nat) : Int), .bool true]
  | none => .tuple #[.string ⟨#[]⟩, .int .i64 k, .bool false]

def plN : Nat → Nat
  | 0 => 110 | 1 => 116 | 2 => 114 | 3 => 34 | _ => 92
def mlN : Nat → Nat
  | 0 => 10 | 1 => 9 | 2 => 13 | 3 => 34 | _ => 92
theorem pl_ix (m : Nat) (h : m < 5) (w : World) : (Instr.index 9 (.string ⟨#[110, 116, 114, 34, 92]⟩) (.int .i64 (m : Int))).run Tryz.prog w = .ok (.int .u8 (plN m : Nat)) w := by
  rcases (by omega : m = 0 ∨ m = 1 ∨ m = 2 ∨ m = 3 ∨ m = 4) with rfl | rfl | rfl | rfl | rfl
  · kernel_rfl
  · kernel_rfl
  · kernel_rfl
  · kernel_rfl
  · kernel_rfl
theorem ml_sl (m : Nat) (h : m < 5) (w : World) : (Instr.slice 9 (.string ⟨#[10, 9, 13, 34, 92]⟩) (some (.int .i64 (m : Int))) (some (.int .i64 ((m : Int) + 1))) none).run Tryz.prog w = .ok (.string (bytesStr [mlN m])) w := by
  rcases (by omega : m = 0 ∨ m = 1 ∨ m = 2 ∨ m = 3 ∨ m = 4) with rfl | rfl | rfl | rfl | rfl
  · kernel_rfl
  · kernel_rfl
  · kernel_rfl
  · kernel_rfl
  · kernel_rfl

theorem byteD_cons (c : UInt8) (r : List UInt8) : byteD (c :: r) = if c.toNat = 92 then escD (c :: r) else if 32 ≤ c.toNat ∧ c.toNat ≤ 126 then (c.toNat, 1) else (0, 0) := rfl
theorem escD_of (c : UInt8) (b : UInt8) (r : List UInt8) (hc : c.toNat = 92) : byteD (c :: b :: r) = escD (c :: b :: r) := by
  rw [byteD_cons, if_pos hc]
theorem esc_plain (c b : UInt8) (r : List UInt8) (hc : c.toNat = 92) (m : Nat) (hm : m < 5) (hb : b.toNat = plN m) : byteD (c :: b :: r) = (mlN m, 2) := by
  rw [escD_of c b r hc]
  unfold escD
  rcases (by omega : m = 0 ∨ m = 1 ∨ m = 2 ∨ m = 3 ∨ m = 4) with rfl | rfl | rfl | rfl | rfl
  · have h : b.toNat = 110 := hb
    simp [h, mlN]
  · have h : b.toNat = 116 := hb
    simp [h, mlN]
  · have h : b.toNat = 114 := hb
    simp [h, mlN]
  · have h : b.toNat = 34 := hb
    simp [h, mlN]
  · have h : b.toNat = 92 := hb
    simp [h, mlN]
theorem esc_else (c b : UInt8) (r : List UInt8) (hc : c.toNat = 92) (hb : ∀ m, m < 5 → b.toNat ≠ plN m) : byteD (c :: b :: r) = if b.toNat = 120 ∧ 2 ≤ r.length then (match hexs 0 (r.take 2) with
      | some n => (n % 256, 4)
      | none => (0, 0))
    else (0, 0) := by
  have h0 : b.toNat ≠ 110 := hb 0 (by omega)
  have h1 : b.toNat ≠ 116 := hb 1 (by omega)
  have h2 : b.toNat ≠ 114 := hb 2 (by omega)
  have h3 : b.toNat ≠ 34 := hb 3 (by omega)
  have h4 : b.toNat ≠ 92 := hb 4 (by omega)
  rw [escD_of c b r hc]
  unfold escD
  simp only [h0, h1, h2, h3, h4, if_false, or_self]
  rfl
theorem esc_one (c : UInt8) (hc : c.toNat = 92) : (byteD [c]).2 = 0 := by
  rw [byteD_cons, if_pos hc]; rfl
theorem pl_inj : ∀ a b : Fin 5, plN a.val = plN b.val → a = b := by decide

set_option maxRecDepth 100000 in
set_option maxHeartbeats 16000000 in
/-- The document's text. -/
theorem rtxt_any (s : ByteArray) (k : Nat) (hs : s.size ≤ 1048576) (hk : k < s.size) (w : World) :
    Calls Tryz.prog 46 #[.string s, .int .i64 k] w fun e w' => e = .returned (txtV k (textO (s.data.toList.drop (k + 1)))) ∧ Below w.heap.size w w' := by
  go_enter Tryz.func46, Tryz.ntmps46
  go_wp2
  go_loopw [7, 8] (fun q i wr => ∃ (j : Nat) (bs : List Nat) (T : ByteArray), q = .string T ∧ i = .int .i64 j ∧ k + 1 ≤ j ∧ j ≤ s.size ∧ T.size ≤ j ∧ Hid (T = bytesStr bs)
      ∧ Hid (textO (s.data.toList.drop (k + 1)) = (textO (s.data.toList.drop j)).map fun p => (bs ++ p.1, (j - (k + 1)) + p.2)) ∧ Hid (Below w.heap.size w wr))
    (fun _ i _ => s.size - (intOf i).toNat)
  case atStart => exact ⟨k + 1, [], ⟨#[]⟩, rfl, by go_num, Nat.le_refl _, by omega, Nat.zero_le _, Lib.hid rfl, Lib.hid (by simp), Lib.hid (Below.refl _ _)⟩
  case round =>
    obtain ⟨j, bs, T, rfl, rfl, hj1, hj2, hTs, hTb, hT, hB⟩ := hrel
    have hszr := hB.out.size
    by_cases hlt : j < s.size
    · have n1 : (j : Int) < (s.size : Int) := by omega
      have hd := drop_at s j hlt
      obtain ⟨y, hy⟩ : ∃ y, y = (s[j]'hlt).toNat := ⟨_, rfl⟩
      have hi : ∀ h, (s[j]'h).toNat = y := fun h => hy.symm
      have hx1 := ext_one s j hlt y hy
      by_cases c34 : y = 34
      · have d1 : ((y : Int) == 34) = true := by rw [beq_iff_eq]; omega
        have hpp : Lib.hasPrefix (s.data.toList.drop j) [34] = true := by
          rw [hd, pre1_cons, beq_iff_eq]; exact UInt8.toNat_inj.1 (by show s[j].toNat = 34; omega)
        have HN := Lib.hid (txt_stop _ _ _ _ hT.out hpp)
        have EN : Hid (k + 1 + (j - (k + 1) + 1) = j + 1) := Lib.hid (by omega)
        clear hd hy hx1 hpp hT
        go_wp2
        go_ret3
        exact ⟨by rw [HN.out]; show Ending.returned (.tuple #[.string T, .int .i64 ((j : Int) + 1), .bool true]) = .returned (.tuple #[.string (bytesStr bs), .int .i64 ((k + 1 + (j - (k + 1) + 1) : Nat) : Int), .bool true]); rw [EN.out, hTb.out]; rfl, hB.out⟩
      have hpp : Lib.hasPrefix (s.data.toList.drop j) [34] = false := by
        rw [hd, pre1_cons, beq_eq_false_iff_ne]; intro e; rw [e] at hy; exact c34 hy
      have d1 : ((y : Int) == 34) = false := by rw [beq_eq_false_iff_ne]; omega
      by_cases c32 : y < 32
      · have d2 : (y : Int) < 32 := by omega
        have HN := Lib.hid (txt_bad _ _ _ _ hT.out hpp (by rw [hd]; rw [byteD_cons, if_neg (by rw [← hy]; omega), if_neg (by rw [← hy]; omega)]))
        clear hd hy hx1 hpp hT
        go_wp2
        go_ret3
        exact ⟨by rw [HN.out]; rfl, hB.out⟩
      have d2 : ¬ (y : Int) < 32 := by omega
      by_cases c126 : 126 < y
      · have d3 : (126 : Int) < y := by omega
        have HN := Lib.hid (txt_bad _ _ _ _ hT.out hpp (by rw [hd]; rw [byteD_cons, if_neg (by rw [← hy]; omega), if_neg (by rw [← hy]; omega)]))
        clear hd hy hx1 hpp hT
        go_wp2
        go_ret3
        exact ⟨by rw [HN.out]; rfl, hB.out⟩
      have d3 : ¬ (126 : Int) < y := by omega
      by_cases c92 : y = 92
      · have d4 : ((y : Int) != 92) = false := by rw [bne_eq_false_iff_eq]; omega
        by_cases h1 : j + 1 < s.size
        · have n2 : ¬ (s.size : Int) ≤ (j : Int) + 1 := by omega
          have hd2 := drop_at s (j + 1) h1
          obtain ⟨z, hz⟩ : ∃ z, z = (s[j + 1]'h1).toNat := ⟨_, rfl⟩
          have hall : s.data.toList.drop j = s[j] :: s[j + 1] :: s.data.toList.drop (j + 1 + 1) := by rw [hd, hd2]
          have hyc : (s[j]'hlt).toNat = 92 := by rw [← hy]; exact c92
          obtain ⟨m0, hm0⟩ : ∃ m0, (m0 < 5 ∧ z = plN m0) ∨ (m0 = 5 ∧ ∀ m, m < 5 → z ≠ plN m) := by
            by_cases h : ∃ m, m < 5 ∧ z = plN m
            · obtain ⟨m, h1, h2⟩ := h
              exact ⟨m, .inl ⟨h1, h2⟩⟩
            · exact ⟨5, .inr ⟨rfl, fun m hm e => h ⟨m, hm, e⟩⟩⟩
          have hm5 : m0 ≤ 5 := by rcases hm0 with ⟨h, _⟩ | ⟨h, _⟩ <;> omega
          have HZ : Hid (∀ m, m < 5 → (z = plN m ↔ m = m0)) := Lib.hid fun m hm => by
            rcases hm0 with ⟨h, e⟩ | ⟨h, e⟩
            · constructor
              · intro e2
                have := pl_inj ⟨m, hm⟩ ⟨m0, h⟩ (by show plN m = plN m0; rw [← e2, e])
                exact congrArg Fin.val this
              · intro e2; rw [e2]; exact e
            · constructor
              · intro e2; exact absurd e2 (e m hm)
              · intro e2; omega
          have HE1 : Hid (m0 < 5 → textO (s.data.toList.drop (k + 1)) = (textO (s.data.toList.drop (j + 2))).map fun p => ((bs ++ [mlN m0]) ++ p.1, (j + 2 - (k + 1)) + p.2)) := Lib.hid fun h => by
            refine txt_next _ _ _ _ _ _ hj1 hT.out hpp ?_ (by omega)
            rw [hall]
            exact esc_plain _ _ _ hyc m0 h (by rw [← hz]; exact (HZ.out m0 h).2 rfl)
          have HE2 : Hid (m0 = 5 → byteD (s.data.toList.drop j) = if z = 120 ∧ 2 ≤ (s.data.toList.drop (j + 1 + 1)).length then (match hexs 0 ((s.data.toList.drop (j + 1 + 1)).take 2) with
              | some n => (n % 256, 4)
              | none => (0, 0))
            else (0, 0)) := Lib.hid fun h => by
            rw [hall, hz]
            exact esc_else _ _ _ hyc fun m hm e => by
              have := (HZ.out m hm).1 (by rw [hz]; exact e)
              omega
          have hpp := Lib.hid hpp
          obtain ⟨i, hi1⟩ : ∃ i, i = j + 1 := ⟨_, rfl⟩
          have hz2 : ∀ h, (s[i]'h).toNat = z := by subst hi1; intro h; exact hz.symm
          have his : i < s.size := by omega
          have hIJ := Lib.hid hi1
          clear hd hd2 hall hy hz hx1 hm0
          obtain ⟨wo, rfl⟩ : ∃ wo : World, wo = wr := ⟨_, rfl⟩
          go_wp2
          rw [show (j : Int) + 1 = (i : Int) by omega]
          go_loopw [7, 12, 13] (fun q d x wr => ∃ (kk : Nat) (X : ByteArray) (D : Bool), q = .string X ∧ d = .bool D ∧ x = .int .i64 kk ∧ kk ≤ 5 ∧ X.size ≤ j + 1
              ∧ Hid (X = if m0 < kk then bytesStr (bs ++ [mlN m0]) else bytesStr bs) ∧ Hid (D = decide (m0 < kk)) ∧ Hid (Below w.heap.size w wr))
            (fun _ _ x _ => 5 - (intOf x).toNat)
          case atStart => exact ⟨0, T, false, rfl, rfl, rfl, Nat.zero_le _, by omega, Lib.hid (by rw [if_neg (by omega)]; exact hTb.out), Lib.hid (by simp), hB⟩
          case round =>
            obtain ⟨kk, X, D, rfl, rfl, rfl, hkk, hXs, hX, hD, hB⟩ := hrel
            have hszr := hB.out.size
            clear hi1
            by_cases hk5 : kk < 5
            · have n3 : (kk : Int) < 5 := by omega
              have hI := fun w' => pl_ix kk hk5 w'
              have hS := fun w' => ml_sl kk hk5 w'
              obtain ⟨p, hp⟩ : ∃ p, p = plN kk := ⟨_, rfl⟩
              obtain ⟨M, hM⟩ : ∃ M, M = bytesStr [mlN kk] := ⟨_, rfl⟩
              have hMs : M.size = 1 := by rw [hM]; exact bytesStr_size _
              have hzk := HZ.out kk hk5
              rw [← hp] at hI hzk
              rw [← hM] at hS
              by_cases hme : kk = m0
              · have d5 : ((z : Int) == (p : Int)) = true := by rw [beq_iff_eq]; have := hzk.2 hme; omega
                have hXb : X = bytesStr bs := by rw [hX.out, if_neg (by omega)]
                have HX2 : Hid (X ++ M = if m0 < kk + 1 then bytesStr (bs ++ [mlN m0]) else bytesStr bs) := Lib.hid (by rw [if_pos (by omega), hXb, hM, hme]; exact bytesStr_append _ _)
                have HXs : Hid ((X ++ M).size ≤ j + 1) := Lib.hid (by
                  have h1 : T.size = X.size := by rw [hXb, hTb.out]
                  rw [ByteArray.size_append, hMs]; omega)
                have HD2 : Hid (true = decide (m0 < kk + 1)) := Lib.hid (by simp; omega)
                clear hzk hX hD hXb hp hM hme
                go_wp2
                go_region
                all_goals go_wp2
                all_goals go_roundw
                all_goals first
                  | exact ⟨kk + 1, X ++ M, true, rfl, rfl, by go_num, by omega, HXs.out, HX2, HD2, by first | exact hB | exact Lib.hid hB.out.drew⟩
                  | (simp [intOf]; omega)
              · have d5 : ((z : Int) == (p : Int)) = false := by rw [beq_eq_false_iff_ne]; intro e; exact hme (hzk.1 (by omega))
                have HX2 : Hid (X = if m0 < kk + 1 then bytesStr (bs ++ [mlN m0]) else bytesStr bs) := Lib.hid (by
                  rw [hX.out]
                  by_cases h : m0 < kk
                  · rw [if_pos h, if_pos (by omega)]
                  · rw [if_neg h, if_neg (by omega)])
                have HD2 : Hid (D = decide (m0 < kk + 1)) := Lib.hid (by rw [hD.out]; congr 1; rw [eq_iff_iff]; omega)
                clear hzk hX hD hp hM hme
                go_wp2
                go_region
                all_goals go_wp2
                all_goals go_roundw
                all_goals first
                  | exact ⟨kk + 1, X, D, rfl, rfl, by go_num, by omega, hXs, HX2, HD2, by first | exact hB | exact Lib.hid hB.out.drew⟩
                  | (simp [intOf]; omega)
            · obtain rfl : kk = 5 := by omega
              by_cases hmm : m0 < 5
              · obtain rfl : D = true := by rw [hD.out]; simp [hmm]
                have HX2 : Hid (X = bytesStr (bs ++ [mlN m0])) := Lib.hid (by rw [hX.out, if_pos hmm])
                have HT2 := Lib.hid (HE1.out hmm)
                have hij : i + 1 = j + 2 := by rw [hIJ.out]
                have hj3 : j + 2 ≤ s.size := by omega
                clear hX hD HE1 HE2 HZ
                go_wp2
                go_roundw
                case rel => exact ⟨j + 2, bs ++ [mlN m0], X, rfl, by rw [← hij]; go_num, by omega, hj3, by omega, HX2, HT2, hB⟩
                case measure => simp [intOf]; omega
              · obtain rfl : D = false := by rw [hD.out]; simp [hmm]
                have hXb : Hid (X = bytesStr bs) := Lib.hid (by rw [hX.out, if_neg hmm])
                have HBy := Lib.hid (HE2.out (by omega))
                have hXT : X.size = T.size := by rw [hXb.out, hTb.out]
                clear hX hD HE1 HE2 HZ hXs
                by_cases c120 : z = 120
                · have d6 : ((z : Int) != 120) = false := by rw [bne_eq_false_iff_eq]; omega
                  by_cases h3 : i + 2 < s.size
                  · have n4 : ¬ (s.size : Int) - (i : Int) < 3 := by omega
                    have hx2 : i + 1 < s.size := by omega
                    have hw2 : IntKind.i64.wrap ((i : Int) + 2) = (i : Int) + 2 := IntWalk.i64_in _ (by omega)
                    have hw3 : IntKind.i64.wrap ((i : Int) + 1) = (i : Int) + 1 := IntWalk.i64_in _ (by omega)
                    have hp2 : (i : Int) + 2 < (s.size : Int) := by omega
                    have hp3 : (i : Int) + 1 < (s.size : Int) := by omega
                    have hp4 : (0 : Int) ≤ (i : Int) + 2 := by omega
                    have hp5 : (0 : Int) ≤ (i : Int) + 1 := by omega
                    have hv2 : ((i : Int) + 2).toNat = i + 2 := by omega
                    have hv3 : ((i : Int) + 1).toNat = i + 1 := by omega
                    obtain ⟨a, ha⟩ : ∃ a, a = (s[i + 1]'hx2).toNat := ⟨_, rfl⟩
                    obtain ⟨b, hb⟩ : ∃ b, b = (s[i + 2]'h3).toNat := ⟨_, rfl⟩
                    have ha2 : ∀ h, (s[i + 1]'h).toNat = a := fun h => ha.symm
                    have hb2 : ∀ h, (s[i + 2]'h).toNat = b := fun h => hb.symm
                    have ha256 : a < 256 := by rw [ha]; exact UInt8.toNat_lt _
                    have hb256 : b < 256 := by rw [hb]; exact UInt8.toNat_lt _
                    have hdd : s.data.toList.drop (j + 1 + 1) = s[i + 1] :: s[i + 2] :: s.data.toList.drop (i + 1 + 1 + 1) := by
                      rw [← hIJ.out, drop_at s (i + 1) hx2, drop_at s (i + 1 + 1) h3]
                    have hBv : byteD (s.data.toList.drop j) = match hexD a, hexD b with | some x, some y => (((16 * x + y) % 256), 4) | _, _ => (0, 0) := by
                      rw [HBy.out, hdd, if_pos ⟨c120, by simp⟩]
                      show (match hexs 0 [s[i + 1], s[i + 2]] with | some n => (n % 256, 4) | none => (0, 0)) = _
                      rw [hexs_two, ← ha, ← hb]
                      cases hexD a <;> cases hexD b <;> rfl
                    clear HBy hdd ha hb
                    cases hxa : hexD a with
                    | none =>
                      have z2 : hexZ a = -1 := by unfold hexZ; rw [hxa]
                      have HN := Lib.hid (txt_bad _ _ _ _ hT.out hpp.out (by rw [hBv, hxa]))
                      have R2 := fun w' => Lib.hid (rhex3_any a ha256 w')
                      rw [z2] at R2
                      clear hBv hxa hT hpp z2
                      go_wp2_with (go_at_call 64; (with_reducible refine (R2 _).out.mono ?_); rintro e w' ⟨rfl, rfl⟩)
                      go_ret3
                      exact ⟨by rw [HN.out]; rfl, hB.out⟩
                    | some A =>
                      have hA := hexD_lt _ ha256 A hxa
                      have z2 : hexZ a = (A : Int) := by unfold hexZ; rw [hxa]
                      have R2 := fun w' => Lib.hid (rhex3_any a ha256 w')
                      rw [z2] at R2
                      have z2a : ¬ (A : Int) < 0 := by omega
                      cases hxb : hexD b with
                      | none =>
                        have z3 : hexZ b = -1 := by unfold hexZ; rw [hxb]
                        have HN := Lib.hid (txt_bad _ _ _ _ hT.out hpp.out (by rw [hBv, hxa, hxb]))
                        have R3 := fun w' => Lib.hid (rhex3_any b hb256 w')
                        rw [z3] at R3
                        clear hBv hxa hxb hT hpp z2 z3
                        go_wp2_with (first | (go_at_call 64; (with_reducible refine (R2 _).out.mono ?_); rintro e w' ⟨rfl, rfl⟩) | (go_at_call 64; (with_reducible refine (R3 _).out.mono ?_); rintro e w' ⟨rfl, rfl⟩))
                        go_ret3
                        exact ⟨by rw [HN.out]; rfl, hB.out⟩
                      | some C =>
                        have hC := hexD_lt _ hb256 C hxb
                        have z3 : hexZ b = (C : Int) := by unfold hexZ; rw [hxb]
                        have R3 := fun w' => Lib.hid (rhex3_any b hb256 w')
                        rw [z3] at R3
                        have z3a : ¬ (C : Int) < 0 := by omega
                        obtain ⟨V, hV⟩ : ∃ V, V = 16 * A + C := ⟨_, rfl⟩
                        have HT2 := Lib.hid (txt_next _ _ _ V 4 _ hj1 hT.out hpp.out (by rw [hBv, hxa, hxb, hV]; show ((16 * A + C) % 256, 4) = _; rw [Nat.mod_eq_of_lt (by omega)]) (by omega))
                        have hcv : IntKind.u8.wrap (16 * (A : Int) + (C : Int)) = (V : Int) := by rw [IntKind.wrap_u8']; omega
                        have hw4 : IntKind.i64.wrap (16 * (A : Int)) = 16 * (A : Int) := IntWalk.i64_in _ (by omega)
                        have hw5 : IntKind.i64.wrap (16 * (A : Int) + (C : Int)) = 16 * (A : Int) + (C : Int) := IntWalk.i64_in _ (by omega)
                        have HC3 : (convert 58 9 (.slice (some ⟨wr.heap.size, 0, none⟩) 1 1)).run Tryz.prog (wr.alloc (.cells #[.int .u8 V] 5)).drew = .ok (.string (bytesStr [V])) (wr.alloc (.cells #[.int .u8 V] 5)).drew := conv_one V wr.heap.size _ ((Blk.new wr 5 #[.int .u8 V]).cell 0)
                        have HX2 : Hid (X ++ bytesStr [V] = bytesStr (bs ++ [V])) := Lib.hid (by rw [hXb.out]; exact bytesStr_append _ _)
                        have hVs : (bytesStr [V]).size = 1 := bytesStr_size _
                        have HXs : Hid ((X ++ bytesStr [V]).size ≤ j + 4) := Lib.hid (by rw [ByteArray.size_append, hVs]; omega)
                        have HB2 : Hid (Below w.heap.size w (wr.alloc (.cells #[.int .u8 V] 5)).drew) := Lib.hid (hB.out.alloc hszr _).drew
                        have hij : i + 2 + 1 = j + 4 := by rw [hIJ.out]
                        have hj3 : j + 4 ≤ s.size := by omega
                        clear hBv hxa hxb hT hpp z2 z3 hV hIJ
                        go_wp2_with (first | (go_at_call 64; (with_reducible refine (R2 _).out.mono ?_); rintro e w' ⟨rfl, rfl⟩) | (go_at_call 64; (with_reducible refine (R3 _).out.mono ?_); rintro e w' ⟨rfl, rfl⟩))
                        go_region_with (first | (go_at_call 64; (with_reducible refine (R2 _).out.mono ?_); rintro e w' ⟨rfl, rfl⟩) | (go_at_call 64; (with_reducible refine (R3 _).out.mono ?_); rintro e w' ⟨rfl, rfl⟩))
                        all_goals go_wp2
                        all_goals go_roundw
                        all_goals first
                          | exact ⟨j + 4, bs ++ [V], _, rfl, by rw [← hij]; go_num, by omega, hj3, HXs.out, HX2, HT2, HB2⟩
                          | (simp [intOf]; omega)
                  · have n4 : (s.size : Int) - (i : Int) < 3 := by omega
                    have HN := Lib.hid (txt_bad _ _ _ _ hT.out hpp.out (by rw [HBy.out, if_neg (by rw [drop_len]; have := hIJ.out; omega)]))
                    clear HBy hT hpp
                    go_wp2
                    go_ret3
                    exact ⟨by rw [HN.out]; rfl, hB.out⟩
                · have d6 : ((z : Int) != 120) = true := by rw [bne_iff_ne]; omega
                  have HN := Lib.hid (txt_bad _ _ _ _ hT.out hpp.out (by rw [HBy.out, if_neg (fun h => c120 h.1)]))
                  clear HBy hT hpp
                  go_wp2
                  go_ret3
                  exact ⟨by rw [HN.out]; rfl, hB.out⟩
        · have n2 : (s.size : Int) ≤ (j : Int) + 1 := by omega
          have HN := Lib.hid (txt_bad _ _ _ _ hT.out hpp (by rw [hd, drop_end s (j + 1) (by omega)]; exact esc_one _ (by rw [← hy]; exact c92)))
          clear hd hy hx1 hpp hT
          go_wp2
          go_ret3
          exact ⟨by rw [HN.out]; rfl, hB.out⟩
      · have d4 : ((y : Int) != 92) = true := by rw [bne_iff_ne]; omega
        have HT2 := Lib.hid (txt_next _ _ _ y 1 _ hj1 hT.out hpp (by rw [hd]; rw [byteD_cons, if_neg (by rw [← hy]; exact c92), if_pos (by rw [← hy]; omega), hy]) (by omega))
        have HX2 : Hid (T ++ s.extract j (j + 1) = bytesStr (bs ++ [y])) := Lib.hid (by rw [hTb.out, hx1]; exact bytesStr_append _ _)
        have hsx : (s.extract j (j + 1)).size = 1 := by rw [hx1]; exact bytesStr_size _
        have HXs : Hid ((T ++ s.extract j (j + 1)).size ≤ j + 1) := Lib.hid (by rw [ByteArray.size_append, hsx]; omega)
        clear hd hy hx1 hpp hT hsx
        go_wp2
        go_roundw
        case rel => exact ⟨j + 1, bs ++ [y], _, rfl, by go_num, by omega, by omega, HXs.out, HX2, HT2, hB⟩
        case measure => simp [intOf]; omega
    · obtain rfl : j = s.size := by omega
      have HN := Lib.hid (txt_bad _ _ _ _ hT.out (by rw [drop_end s s.size (Nat.le_refl _)]; rfl) (by rw [drop_end s s.size (Nat.le_refl _)]; rfl))
      clear hT
      go_wp2
      go_ret3
      exact ⟨by rw [HN.out]; rfl, hB.out⟩
end Go.Proofs.YtdodkbpagbblmaaGreatDoor
end
section
namespace Go.Proofs.YtdodkbpagbblmaaGreatDoor
open Go Go.RowKit

/-- What Lex leaves. -/
def LexP (t : ByteArray) (w : World) (e : Ending) (w' : World) : Prop :=
  Below w.heap.size w w' ∧ ((1048576 < t.size ∧ e = .returned (.tuple #[.slice none 0 0, .int .i64 0, .int .i64 3]))
    ∨ (t.size ≤ 1048576 ∧ ∃ a, (lexAt t.data.toList 0).2 = some a ∧ e = .returned (.tuple #[.slice none 0 0, .int .i64 a, .int .i64 130]))
    ∨ (t.size ≤ 1048576 ∧ (lexAt t.data.toList 0).2 = none ∧ ∃ v, e = .returned (.tuple #[v, .int .i64 0, .int .i64 0]) ∧ w'.ownsRow w.heap.size 35 8 v (lexAt t.data.toList 0).1.length (cellsW (lexAt t.data.toList 0).1)))

theorem own_base {w : World} {b b' e size n : Nat} {v : Value} {xs : List Value} (h : w.ownsRow b e size v n xs) (hb : b' ≤ b) : w.ownsRow b' e size v n xs := by
  refine ⟨h.1, ?_⟩
  rcases h.2 with h1 | ⟨g, cap, cur, h1, h2, h3⟩
  · exact .inl h1
  · exact .inr ⟨g, cap, cur, h1, Nat.le_trans hb h2, h3⟩
theorem cell_eight_new (w : World) (a0 a1 a2 a3 a4 a5 a6 a7 : Value) (t : TypeId) : ∀ j u, [a0, a1, a2, a3, a4, a5, a6, a7][j]? = some u → (w.alloc (.cells #[a0, a1, a2, a3, a4, a5, a6, a7] t)).cell? ((⟨w.heap.size, 0, none⟩ : Addr).add j) = some u :=
  World.news_of_block (cs := #[a0, a1, a2, a3, a4, a5, a6, a7]) (Blk.new w t _)

theorem cell_eight_next (w : World) (o : Obj) (a0 a1 a2 a3 a4 a5 a6 a7 : Value) (t : TypeId) : ∀ j u, [a0, a1, a2, a3, a4, a5, a6, a7][j]? = some u → ((w.alloc o).alloc (.cells #[a0, a1, a2, a3, a4, a5, a6, a7] t)).cell? ((⟨w.heap.size + 1, 0, none⟩ : Addr).add j) = some u := by
  have h := cell_eight_new (w.alloc o) a0 a1 a2 a3 a4 a5 a6 a7 t
  rw [World.size_alloc] at h
  exact h

set_option maxRecDepth 100000 in
set_option maxHeartbeats 8000000 in
theorem lex_any (t : ByteArray) (w : World) (hG : GlobD w) : Calls Tryz.prog 7 #[.string t] w (LexP t w) := by
  by_cases hbig : 1048576 < t.size
  · have d1 : (1048576 : Int) < t.size := by omega
    go_enter Tryz.func7, Tryz.ntmps7
    go_wp2
    go_ret3
    exact ⟨Below.refl _ _, .inl ⟨hbig, rfl⟩⟩
  · have ht : t.size ≤ 1048576 := by omega
    have d1 : ¬ (1048576 : Int) < t.size := by omega
    obtain ⟨i0, hi, hz0, hz1, hz2⟩ := info_parts Tryz.info35
    have hmf : ∀ (fn : Fn) (first cap : Array Value) (w : World), (Instr.makeFunc fn first cap).run Tryz.prog w = .ok (.func fn first cap) w := fun _ _ _ _ => rfl
    have HG := Lib.hid hG
    have hBig := hG.big
    have hr0 : Hid (Rdr (w.alloc (.cells #[.string t, .int .i64 0] 49)) w.heap.size t 0) := Lib.hid (Blk.new w 49 _)
    have hO0 : Hid ((w.alloc (.cells #[.string t, .int .i64 0] 49)).ownsRow (w.heap.size + 1) 35 8 (.slice none 0 0) ([] : List (Wd × Nat)).length (cellsW [])) := World.ownsRow_nil _ _ _ _
    have hB0 : Hid (Below w.heap.size w (w.alloc (.cells #[.string t, .int .i64 0] 49))) := (Below.refl _ w).alloc (Nat.le_refl _) _
    clear hG
    go_enter Tryz.func7, Tryz.ntmps7
    go_wp2_with fail
    go_loopg [5, 8, 9, 10] (t.size) (fun n v a b c wr => ∃ (k : Nat) (ws : List (Wd × Nat)), k ≤ t.size ∧ n = t.size - k ∧ ws.length ≤ k
        ∧ Hid (lexAt t.data.toList 0 = (ws ++ (lexAt (t.data.toList.drop k) k).1, (lexAt (t.data.toList.drop k) k).2))
        ∧ Hid (Rdr wr w.heap.size t k) ∧ Hid (wr.ownsRow (w.heap.size + 1) 35 8 v ws.length (cellsW ws)) ∧ Hid (Below w.heap.size w wr))
    case atStart => exact ⟨0, [], Nat.zero_le _, rfl, Nat.le_refl _, Lib.hid (by simp), hr0, hO0, hB0⟩
    case round =>
      clear hr0 hO0 hB0
      obtain ⟨k, ws, hk, rfl, hws, hL, hR, hO, hB⟩ := hrel
      have hsk := skipL_le (t.data.toList.drop k)
      rw [drop_len] at hsk
      have HT := Lib.hid (taken_any w.heap.size t k ht hk wr (HG.out.below (Nat.le_refl _) hB.out) hR.out hBig)
      have hdd : (t.data.toList.drop k).drop (skipL (t.data.toList.drop k)) = t.data.toList.drop (k + skipL (t.data.toList.drop k)) := List.drop_drop
      have HE : Hid (k + skipL (t.data.toList.drop k) = t.size → lexAt (t.data.toList.drop k) k = ([], none)) := Lib.hid (fun h => lexAt_end _ _ (by rw [hdd, h]; exact List.drop_eq_nil_of_le (by rw [← Lib.size_eq]; omega)))
      have hne0 : k + skipL (t.data.toList.drop k) ≠ t.size → (t.data.toList.drop k).drop (skipL (t.data.toList.drop k)) ≠ [] := fun h e => by
        have := congrArg List.length e
        rw [hdd, drop_len] at this
        simp at this
        omega
      have HBad : Hid (k + skipL (t.data.toList.drop k) ≠ t.size → nextW (t.data.toList.drop (k + skipL (t.data.toList.drop k))) = none → lexAt (t.data.toList.drop k) k = ([], some (k + skipL (t.data.toList.drop k)))) :=
        Lib.hid (fun h h2 => lexAt_bad _ _ (hne0 h) (by rw [hdd]; exact h2))
      have HSt : Hid (∀ p, k + skipL (t.data.toList.drop k) ≠ t.size → nextW (t.data.toList.drop (k + skipL (t.data.toList.drop k))) = some p → lexAt (t.data.toList.drop k) k = ((p.1, k + skipL (t.data.toList.drop k)) :: (lexAt (t.data.toList.drop (k + skipL (t.data.toList.drop k) + p.2)) (k + skipL (t.data.toList.drop k) + p.2)).1, (lexAt (t.data.toList.drop (k + skipL (t.data.toList.drop k) + p.2)) (k + skipL (t.data.toList.drop k) + p.2)).2)) := by
        refine Lib.hid fun p h h2 => ?_
        have := lexAt_step (t.data.toList.drop k) k p (hne0 h) (by rw [hdd]; exact h2)
        rw [hdd, List.drop_drop] at this
        exact this
      obtain ⟨m, hm⟩ : ∃ m, m = k + skipL (t.data.toList.drop k) := ⟨_, rfl⟩
      rw [← hm] at HT HE HBad HSt
      have hmt : m ≤ t.size := by omega
      have hkm : k ≤ m := by omega
      have Hlen : Hid (∀ p, nextW (t.data.toList.drop m) = some p → 1 ≤ p.2 ∧ m + p.2 ≤ t.size) := Lib.hid (fun p h => by
        have := nextW_len _ p h
        rw [drop_len] at this
        omega)
      clear hm hdd hne0 hsk
      go_wp2_with fail
      refine HT.out.mono ?_
      rintro e w1 ⟨hg1, h1⟩
      have hB1 : Hid (Below w.heap.size w w1) := Lib.hid (hB.out.grown hg1 hB.out.size (fun i e => by cases e; exact Nat.le_refl _))
      have hO1 : Hid (w1.ownsRow (w.heap.size + 1) 35 8 u5 ws.length (cellsW ws)) := by
        refine Lib.hid (hO.out.kept hg1 (.inr ?_))
        intro e
        have := (hO.out.lt w.heap.size e).1
        omega
      have hsz1 : w.heap.size < w1.heap.size := by have h := hR.out.lt; have := hg1.size; omega
      clear hg1 HT hO hB
      by_cases hend : m = t.size
      · rw [if_pos hend] at h1
        obtain ⟨rfl, hr1⟩ := h1
        have HN : Hid (lexAt t.data.toList 0 = (ws, none)) := Lib.hid (by rw [hL.out, HE.out hend]; simp)
        clear HE HBad HSt Hlen hL hend hr1
        unfold wordV wordC
        go_wp2
        go_ret3
        refine ⟨hB1.out.alloc (Nat.le_of_lt hsz1) _, .inr (.inr ⟨ht, by rw [HN.out], _, rfl, ?_⟩)⟩
        rw [HN.out]
        exact own_base (hO1.out.alloc _) (Nat.le_succ _)
      · rw [if_neg hend] at h1
        cases hnw : nextW (t.data.toList.drop m) with
        | none =>
          rw [hnw] at h1
          obtain ⟨rfl, hr1⟩ := h1
          have HN : Hid (lexAt t.data.toList 0 = (ws, some m)) := Lib.hid (by rw [hL.out, HBad.out hend hnw]; simp)
          have HR1 := Lib.hid hr1
          have r1 : w1.cell? ⟨w.heap.size, 1, none⟩ = some (.int .i64 (m : Int)) := hr1.cell 1
          clear HE HBad HSt Hlen hL hend hr1 hnw
          unfold wordV wordC
          go_wp2
          go_region
          go_wp2
          go_ret3
          exact ⟨(hB1.out.alloc (Nat.le_of_lt hsz1) _).drew, .inr (.inl ⟨ht, m, by rw [HN.out], rfl⟩)⟩
        | some p =>
          rw [hnw] at h1
          obtain ⟨rfl, hr1⟩ := h1
          have hst := HSt.out p hend hnw
          obtain ⟨hp1, hp2⟩ := Hlen.out p hnw
          have HN : Hid (lexAt t.data.toList 0 = ((ws ++ [(p.1, m)]) ++ (lexAt (t.data.toList.drop (m + p.2)) (m + p.2)).1, (lexAt (t.data.toList.drop (m + p.2)) (m + p.2)).2)) := Lib.hid (by rw [hL.out, hst]; simp)
          have HR1 := Lib.hid hr1
          clear HE HBad HSt Hlen hL hend hr1 hnw hst
          unfold wordV wordC
          go_wp2_with (at_builtin; refine wpList_append_own _ rfl _ _ 23 rfl (w.heap.size + 1) 35 i0 _ 8 72 Tryz.underlying23 hi hz0 hz1 hz2 rfl (by decide) _ _ _ rfl ((hO1.out.alloc _).alloc _) ⟨w1.heap.size + 1, 0, none⟩ 1 1 (wcells (p.1, m)) rfl rfl (cell_eight_next w1 _ _ _ _ _ _ _ _ _ 35) (by simp [wcells, Value.oneCell']) (by unfold maxLen; omega) (by omega) (by simp; omega) ?_; intro v2 w2 hown2 hgrow _)
          have hB2 : Below (w.heap.size + 1) w1 ((w1.alloc (.cells #[.int .i64 p.1.kind, .int .i64 (m : Int), .string p.1.txt, .int .u64 (wdI p.1.set 0), .int .u64 (wdI p.1.set 1), .int .u64 (wdI p.1.set 2), .int .u64 (wdI p.1.set 3), .int .i64 p.1.num] 35)).alloc (.cells #[.int .i64 p.1.kind, .int .i64 (m : Int), .string p.1.txt, .int .u64 (wdI p.1.set 0), .int .u64 (wdI p.1.set 1), .int .u64 (wdI p.1.set 2), .int .u64 (wdI p.1.set 3), .int .i64 p.1.num] 35)) := ((Below.refl _ w1).alloc (by omega) _).alloc (by simp; omega) _
          have hB3 := hB2.grown hgrow (by simp; omega) (fun i e => (hO1.out.lt i e).1)
          have HR2 := Lib.hid (HR1.out.below hB3 (by omega))
          have hB4 := Lib.hid (hB1.out.trans (hB3.mono (by omega)))
          have hO2 : Hid (w2.ownsRow (w.heap.size + 1) 35 8 v2 (ws ++ [(p.1, m)]).length (cellsW (ws ++ [(p.1, m)]))) := by
            refine Lib.hid ?_
            rw [cellsW_snoc, List.length_append]
            exact hown2
          clear hown2 hgrow hB2 hB3 hO1 hB1 HR1
          go_wp2
          go_roundg (t.size - (m + p.2))
          case measure => omega
          case rel => exact ⟨m + p.2, ws ++ [(p.1, m)], by omega, rfl, by simp; omega, HN, HR2, hO2, hB4⟩
end Go.Proofs.YtdodkbpagbblmaaGreatDoor
end
section
namespace Go.Proofs.YtdodkbpagbblmaaGreatDoor
open Go Go.RowKit

/-- What a word has, and nothing else. -/
def bareW (x : Wd) : Wd :=
  if x.kind = 1 ∨ x.kind = 2 ∨ x.kind = 5 then ⟨x.kind, x.txt, 0#256, 0⟩ else if x.kind = 3 then ⟨x.kind, ⟨#[]⟩, x.set, 0⟩ else if x.kind = 4 then ⟨x.kind, ⟨#[]⟩, 0#256, x.num⟩ else ⟨x.kind, ⟨#[]⟩, 0#256, 0⟩
def signT : List UInt8 → Bool
  | [c] => sgnB c.toNat
  | _ => false
/-- Is what a word has as it must be? -/
def okW (x : Wd) : Bool :=
  if x.kind = 1 then nameB x.txt.data.toList else if x.kind = 2 then true else if x.kind = 3 then true else if x.kind = 4 then decide (0 ≤ x.num ∧ x.num ≤ 999999999) else if x.kind = 5 then signT x.txt.data.toList else false
def mayB (x : Wd) : Bool := okW x && sameW x (bareW x)

theorem eq_bare (x y : Wd) (a : Int) (w : World) : (Op.equalIn 10000 35 (.agg (wordC x a)) (.agg (wordC y a))).run Tryz.prog w = .ok (sameW x y) w := by
  have h := eq_wds 9996 x y a a w
  have e : (x.kind == y.kind && (a == a && (x.txt.toList == y.txt.toList && (x.set == y.set && x.num == y.num)))) = sameW x y := by unfold sameW; simp
  rw [e] at h
  exact h

set_option maxRecDepth 100000 in
set_option maxHeartbeats 4000000 in
theorem mayBe_any (x : Wd) (a : Int) (w : World) : Calls Tryz.prog 26 #[wordV x a] w fun e w' => e = .returned (.bool (mayB x)) ∧ Below w.heap.size w w' := by
  obtain ⟨kd, tx, st, nm⟩ := x
  have key : ∀ r, mayB ⟨kd, tx, st, nm⟩ = r → (Calls Tryz.prog 26 #[wordV ⟨kd, tx, st, nm⟩ a] w fun e w' => e = .returned (.bool r) ∧ Below w.heap.size w w') → Calls Tryz.prog 26 #[wordV ⟨kd, tx, st, nm⟩ a] w fun e w' => e = .returned (.bool (mayB ⟨kd, tx, st, nm⟩)) ∧ Below w.heap.size w w' := fun r h k => by rw [h]; exact k
  have HE : ∀ y : Wd, Hid (∀ w', (Op.equalIn 10000 35 (.agg (wordC ⟨kd, tx, st, nm⟩ a)) (.agg (wordC y a))).run Tryz.prog w' = .ok (sameW ⟨kd, tx, st, nm⟩ y) w') := fun y => Lib.hid fun w' => eq_bare ⟨kd, tx, st, nm⟩ y a w'
  obtain ⟨z0, z1, z2, z3⟩ := wz
  by_cases c1 : kd = 1
  · subst c1
    have he := (HE ⟨1, tx, 0#256, 0⟩).out
    have hm : mayB ⟨1, tx, st, nm⟩ = (nameB tx.data.toList && sameW ⟨1, tx, st, nm⟩ ⟨1, tx, 0#256, 0⟩) := rfl
    have HC := fun w' => Lib.hid (name_all tx w')
    generalize sameW ⟨1, tx, st, nm⟩ ⟨1, tx, 0#256, 0⟩ = r at he hm
    generalize nameB tx.data.toList = m at HC hm
    refine key _ hm ?_
    unfold wordC at he
    dsimp only at he
    rw [z0, z1, z2, z3] at he
    clear key HE hm z0 z1 z2 z3
    unfold wordV wordC
    cases m with
    | true =>
      go_enter Tryz.func26, Tryz.ntmps26
      go_wp2
      go_region_with (go_at_call 19; refine (HC _).out.mono ?_; rintro e w3 ⟨rfl, rfl⟩)
      all_goals go_wp2
      all_goals go_ret
      all_goals exact ⟨by simp, by first | exact ((Below.refl _ w).alloc (Nat.le_refl _) _).alloc (by simp) _ | exact (((Below.refl _ w).alloc (Nat.le_refl _) _).alloc (by simp) _).drew | exact (((Below.refl _ w).alloc (Nat.le_refl _) _).alloc (by simp) _).drew.drew⟩
    | false =>
      go_enter Tryz.func26, Tryz.ntmps26
      go_wp2
      go_region_with (go_at_call 19; refine (HC _).out.mono ?_; rintro e w3 ⟨rfl, rfl⟩)
      all_goals go_wp2
      all_goals go_ret
      all_goals exact ⟨by simp, by first | exact ((Below.refl _ w).alloc (Nat.le_refl _) _).alloc (by simp) _ | exact (((Below.refl _ w).alloc (Nat.le_refl _) _).alloc (by simp) _).drew | exact (((Below.refl _ w).alloc (Nat.le_refl _) _).alloc (by simp) _).drew.drew⟩
  by_cases c2 : kd = 2
  · subst c2
    have he := (HE ⟨2, tx, 0#256, 0⟩).out
    have hm : mayB ⟨2, tx, st, nm⟩ = (true && sameW ⟨2, tx, st, nm⟩ ⟨2, tx, 0#256, 0⟩) := rfl
    generalize sameW ⟨2, tx, st, nm⟩ ⟨2, tx, 0#256, 0⟩ = r at he hm
    refine key _ hm ?_
    unfold wordC at he
    dsimp only at he
    rw [z0, z1, z2, z3] at he
    clear key HE hm z0 z1 z2 z3
    unfold wordV wordC
    go_enter Tryz.func26, Tryz.ntmps26
    go_wp2
    go_region
    all_goals go_wp2
    all_goals go_ret
    all_goals exact ⟨by simp, by first | exact ((Below.refl _ w).alloc (Nat.le_refl _) _).alloc (by simp) _ | exact (((Below.refl _ w).alloc (Nat.le_refl _) _).alloc (by simp) _).drew | exact (((Below.refl _ w).alloc (Nat.le_refl _) _).alloc (by simp) _).drew.drew⟩
  by_cases c3 : kd = 3
  · subst c3
    have he := (HE ⟨3, ⟨#[]⟩, st, 0⟩).out
    have hm : mayB ⟨3, tx, st, nm⟩ = (true && sameW ⟨3, tx, st, nm⟩ ⟨3, ⟨#[]⟩, st, 0⟩) := rfl
    generalize sameW ⟨3, tx, st, nm⟩ ⟨3, ⟨#[]⟩, st, 0⟩ = r at he hm
    refine key _ hm ?_
    unfold wordC at he
    dsimp only at he
    clear key HE hm z0 z1 z2 z3
    unfold wordV wordC
    go_enter Tryz.func26, Tryz.ntmps26
    go_wp2
    go_region
    all_goals go_wp2
    all_goals go_ret
    all_goals exact ⟨by simp, by first | exact ((Below.refl _ w).alloc (Nat.le_refl _) _).alloc (by simp) _ | exact (((Below.refl _ w).alloc (Nat.le_refl _) _).alloc (by simp) _).drew | exact (((Below.refl _ w).alloc (Nat.le_refl _) _).alloc (by simp) _).drew.drew⟩
  by_cases c4 : kd = 4
  · subst c4
    have he := (HE ⟨4, ⟨#[]⟩, 0#256, nm⟩).out
    have hm : mayB ⟨4, tx, st, nm⟩ = (decide (0 ≤ nm ∧ nm ≤ 999999999) && sameW ⟨4, tx, st, nm⟩ ⟨4, ⟨#[]⟩, 0#256, nm⟩) := rfl
    generalize sameW ⟨4, tx, st, nm⟩ ⟨4, ⟨#[]⟩, 0#256, nm⟩ = r at he hm
    by_cases d1 : (0 : Int) ≤ nm
    · by_cases d2 : nm ≤ 999999999
      · rw [show decide (0 ≤ nm ∧ nm ≤ 999999999) = true from by simp [d1, d2]] at hm
        refine key _ hm ?_
        unfold wordC at he
        dsimp only at he
        rw [z0, z1, z2, z3] at he
        clear key HE hm z0 z1 z2 z3
        unfold wordV wordC
        go_enter Tryz.func26, Tryz.ntmps26
        go_wp2
        go_region
        all_goals go_wp2
        all_goals go_ret
        all_goals exact ⟨by simp, by first | exact ((Below.refl _ w).alloc (Nat.le_refl _) _).alloc (by simp) _ | exact (((Below.refl _ w).alloc (Nat.le_refl _) _).alloc (by simp) _).drew | exact (((Below.refl _ w).alloc (Nat.le_refl _) _).alloc (by simp) _).drew.drew⟩
      · rw [show decide (0 ≤ nm ∧ nm ≤ 999999999) = false from by simp [d2]] at hm
        refine key _ hm ?_
        unfold wordC at he
        dsimp only at he
        rw [z0, z1, z2, z3] at he
        clear key HE hm z0 z1 z2 z3
        unfold wordV wordC
        go_enter Tryz.func26, Tryz.ntmps26
        go_wp2
        go_region
        all_goals go_wp2
        all_goals go_ret
        all_goals exact ⟨by simp, by first | exact ((Below.refl _ w).alloc (Nat.le_refl _) _).alloc (by simp) _ | exact (((Below.refl _ w).alloc (Nat.le_refl _) _).alloc (by simp) _).drew | exact (((Below.refl _ w).alloc (Nat.le_refl _) _).alloc (by simp) _).drew.drew⟩
    · rw [show decide (0 ≤ nm ∧ nm ≤ 999999999) = false from by simp [d1]] at hm
      have e1 : decide ((0 : Int) ≤ nm) = false := by simp; omega
      refine key _ hm ?_
      unfold wordC at he
      dsimp only at he
      rw [z0, z1, z2, z3] at he
      clear key HE hm z0 z1 z2 z3
      unfold wordV wordC
      go_enter Tryz.func26, Tryz.ntmps26
      go_wp2
      go_region
      all_goals go_wp2
      all_goals go_ret
      all_goals exact ⟨by simp, by first | exact ((Below.refl _ w).alloc (Nat.le_refl _) _).alloc (by simp) _ | exact (((Below.refl _ w).alloc (Nat.le_refl _) _).alloc (by simp) _).drew | exact (((Below.refl _ w).alloc (Nat.le_refl _) _).alloc (by simp) _).drew.drew⟩
  by_cases c5 : kd = 5
  · subst c5
    have he := (HE ⟨5, tx, 0#256, 0⟩).out
    have hm : mayB ⟨5, tx, st, nm⟩ = (signT tx.data.toList && sameW ⟨5, tx, st, nm⟩ ⟨5, tx, 0#256, 0⟩) := rfl
    generalize sameW ⟨5, tx, st, nm⟩ ⟨5, tx, 0#256, 0⟩ = r at he hm
    by_cases d1 : tx.size = 1
    · obtain ⟨b, hb⟩ : ∃ b, b = (tx[0]'(by omega)).toNat := ⟨_, rfl⟩
      have hi : ∀ h, (tx[0]'h).toNat = b := fun h => hb.symm
      have hbl : b < 256 := by rw [hb]; exact (tx[0]'(by omega)).toNat_lt
      have hs : signT tx.data.toList = sgnB b := by
        have h := drop_at tx 0 (by omega)
        rw [List.drop_zero, List.drop_eq_nil_of_le (by rw [← Lib.size_eq]; omega)] at h
        rw [h, hb]
        rfl
      rw [hs] at hm
      have HC := fun w' => Lib.hid (isSgn_any b hbl w')
      have n1 : ((tx.size : Int) == 1) = true := by rw [beq_iff_eq]; omega
      clear hb hs
      cases hg : sgnB b with
      | true =>
        rw [hg] at hm HC
        clear hg
        refine key _ hm ?_
        unfold wordC at he
        dsimp only at he
        rw [z0, z1, z2, z3] at he
        clear key HE hm z0 z1 z2 z3
        unfold wordV wordC
        go_enter Tryz.func26, Tryz.ntmps26
        go_wp2
        go_region_with (go_at_call 42; refine (HC _).out.mono ?_; rintro e w3 ⟨rfl, rfl⟩)
        all_goals go_wp2
        all_goals go_ret
        all_goals exact ⟨by simp, by first | exact ((Below.refl _ w).alloc (Nat.le_refl _) _).alloc (by simp) _ | exact (((Below.refl _ w).alloc (Nat.le_refl _) _).alloc (by simp) _).drew | exact (((Below.refl _ w).alloc (Nat.le_refl _) _).alloc (by simp) _).drew.drew⟩
      | false =>
        rw [hg] at hm HC
        clear hg
        refine key _ hm ?_
        unfold wordC at he
        dsimp only at he
        rw [z0, z1, z2, z3] at he
        clear key HE hm z0 z1 z2 z3
        unfold wordV wordC
        go_enter Tryz.func26, Tryz.ntmps26
        go_wp2
        go_region_with (go_at_call 42; refine (HC _).out.mono ?_; rintro e w3 ⟨rfl, rfl⟩)
        all_goals go_wp2
        all_goals go_ret
        all_goals exact ⟨by simp, by first | exact ((Below.refl _ w).alloc (Nat.le_refl _) _).alloc (by simp) _ | exact (((Below.refl _ w).alloc (Nat.le_refl _) _).alloc (by simp) _).drew | exact (((Below.refl _ w).alloc (Nat.le_refl _) _).alloc (by simp) _).drew.drew⟩
    · have hs : signT tx.data.toList = false := by
        have h : tx.data.toList.length ≠ 1 := by rw [← Lib.size_eq]; exact d1
        match hl : tx.data.toList with
        | [] => rfl
        | [c] => rw [hl] at h; simp at h
        | c :: d :: l => rfl
      rw [hs] at hm
      have n1 : ((tx.size : Int) == 1) = false := by rw [beq_eq_false_iff_ne]; omega
      clear hs
      refine key _ hm ?_
      unfold wordC at he
      dsimp only at he
      rw [z0, z1, z2, z3] at he
      clear key HE hm z0 z1 z2 z3
      unfold wordV wordC
      go_enter Tryz.func26, Tryz.ntmps26
      go_wp2
      go_region
      all_goals go_wp2
      all_goals go_ret
      all_goals exact ⟨by simp, by first | exact ((Below.refl _ w).alloc (Nat.le_refl _) _).alloc (by simp) _ | exact (((Below.refl _ w).alloc (Nat.le_refl _) _).alloc (by simp) _).drew | exact (((Below.refl _ w).alloc (Nat.le_refl _) _).alloc (by simp) _).drew.drew⟩
  · have hm : mayB ⟨kd, tx, st, nm⟩ = false := by unfold mayB okW; simp [c1, c2, c3, c4, c5]
    refine key _ hm ?_
    clear key HE hm z0 z1 z2 z3
    unfold wordV wordC
    go_enter Tryz.func26, Tryz.ntmps26
    go_wp2
    go_ret
    exact ⟨by simp, ((Below.refl _ w).alloc (Nat.le_refl _) _).alloc (by simp) _⟩
end Go.Proofs.YtdodkbpagbblmaaGreatDoor
end
section
namespace Go.Proofs.YtdodkbpagbblmaaGreatDoor
open Go Go.RowKit

/-- What Print says of words. -/
def printR (l : List (Wd × Int)) : ByteArray × Int :=
  if l.all (fun x => mayB x.1) = true then (if 1048576 < (joinW l).length then (⟨#[]⟩, 3) else (bytesStr (joinW l), 0)) else (⟨#[]⟩, 2)

/-- A word that may be is at least as long as what it has. -/
theorem wordF_long (x : Wd) (h : mayB x = true) : x.txt.size ≤ (wordF x).length := by
  have hq : ∀ l : List UInt8, l.length ≤ (quoteL l).length := by
    intro l
    induction l with
    | nil => simp [quoteL]
    | cons c l ih =>
      have := quoteB_pos c.toNat
      simp [quoteL] at ih ⊢
      omega
  obtain ⟨kd, tx, st, nm⟩ := x
  unfold mayB at h
  rw [Bool.and_eq_true] at h
  have hs := h.2
  unfold sameW at hs
  simp only [Bool.and_eq_true, beq_iff_eq] at hs
  have ht := hs.2.1
  by_cases c2 : kd = 2
  · have := hq tx.data.toList
    unfold wordF quoteF
    rw [if_pos c2]
    simp only [List.length_append, List.length_cons, List.length_nil]
    rw [Lib.size_eq]
    omega
  · by_cases c3 : kd = 3
    · have : tx.size = 0 := by
        unfold bareW at ht
        rw [if_neg (by simp; omega), if_pos c3] at ht
        have := congrArg List.length ht
        rw [ByteArray.toList_eq, ByteArray.toList_eq] at this
        rw [Lib.size_eq]
        exact this
      simp only
      omega
    · by_cases c4 : kd = 4
      · have : tx.size = 0 := by
          unfold bareW at ht
          rw [if_neg (by simp; omega), if_neg c3, if_pos c4] at ht
          have := congrArg List.length ht
          rw [ByteArray.toList_eq, ByteArray.toList_eq] at this
          rw [Lib.size_eq]
          exact this
        simp only
        omega
      · unfold wordF
        rw [if_neg c2, if_neg c3, if_neg c4, List.length_map, ← Lib.size_eq]
        exact Nat.le_refl _

theorem wordF_len (x : Wd) (h0 : -9223372036854775808 ≤ x.num) (h1 : x.num ≤ 9223372036854775807) : (wordF x).length ≤ 4 * x.txt.size + 3000 := by
  obtain ⟨kd, tx, st, nm⟩ := x
  unfold wordF
  split
  · have := quoteF_len tx.data.toList
    rw [← Lib.size_eq] at this
    simp only
    omega
  · split
    · have := textS_len st
      simp only
      omega
    · split
      · simp only [List.length_map]
        have := Lib.itoa_length_le nm h0 h1
        omega
      · simp only [List.length_map]
        rw [← Lib.size_eq]
        omega

theorem cell_one_next (w : World) (o : Obj) (a0 : Value) (t : TypeId) : ∀ j u, [a0][j]? = some u → ((w.alloc o).alloc (.cells #[a0] t)).cell? ((⟨w.heap.size + 1, 0, none⟩ : Addr).add j) = some u := by
  have h := cell_one_new (w.alloc o) a0 t
  rw [World.size_alloc] at h
  exact h

set_option maxRecDepth 100000 in
set_option maxHeartbeats 16000000 in
theorem print_any (a : Option Addr) (cap : Nat) (l : List (Wd × Int)) (w : World) (hG : GlobD w) (hl : RowW w a l) (hll : l.length ≤ 1048576) (hx : ∀ x ∈ l, (x.1.txt.size ≤ 9223372036854775807 ∧ (l.length ≤ 1 ∨ x.1.txt.size ≤ 140737488351232)) ∧ -9223372036854775808 ≤ x.1.num ∧ x.1.num ≤ 9223372036854775807) :
    Calls Tryz.prog 13 #[.slice a l.length cap] w fun e w' => e = .returned (.tuple #[.string (printR l).1, .int .i64 (printR l).2]) ∧ Below w.heap.size w w' := by
  obtain ⟨i0, hi, hz0, hz1, hz2⟩ := info_parts Tryz.info5
  have HD := Lib.hid hl
  have HG := Lib.hid hG
  have HX := Lib.hid hx
  obtain ⟨n, hn⟩ : ∃ n, n = l.length := ⟨_, rfl⟩
  have HN : Hid (l.length = n) := hn.symm
  rw [← hn] at hll ⊢
  clear hl hG hx hn
  go_enter Tryz.func13, Tryz.ntmps13
  go_wp2
  go_loopw [11] (fun i wr => ∃ (m : Nat), i = .int .i64 m ∧ m ≤ n ∧ Hid (∀ x ∈ l.take m, mayB x.1 = true) ∧ Hid (Below w.heap.size w wr))
    (fun i _ => n - (intOf i).toNat)
  case atStart => exact ⟨0, rfl, Nat.zero_le _, Lib.hid (by simp), Below.refl _ _⟩
  case round =>
    obtain ⟨m, rfl, hm, hA, hB⟩ := hrel
    have hszr := hB.out.size
    by_cases hlt : m < n
    · have HXm : Hid (l[m]? = some (l[m]'(by rw [HN.out]; exact hlt))) := Lib.hid (List.getElem?_eq_getElem _)
      obtain ⟨x, hx⟩ : ∃ x, l[m]'(by rw [HN.out]; exact hlt) = x := ⟨_, rfl⟩
      rw [hx] at HXm
      clear hx
      have HTk : Hid (l.take (m + 1) = l.take m ++ [x]) := Lib.hid (by rw [List.take_add_one, HXm.out]; rfl)
      obtain ⟨x, ax⟩ := x
      obtain ⟨g, off, rfl, hW⟩ := HD.out m _ HXm.out
      have hW := hW.below hB.out hW.lt
      have bg := hW.lt
      obtain ⟨c0, c1, c2, c3, c4, c5, c6, c7⟩ := hW
      dsimp only at c0 c1 c2 c3 c4 c5 c6 c7
      have HB0 : Hid (Below w.heap.size w (wr.alloc (.cells (wordC x ax) 35))) := hB.out.alloc hszr _
      unfold wordC at HB0
      have HC := fun w' => Lib.hid (mayBe_any x ax w')
      have n1 : (m : Int) < (n : Int) := by omega
      cases hmb : mayB x with
      | true =>
        rw [hmb] at HC
        have HA2 : Hid (∀ y ∈ l.take (m + 1), mayB y.1 = true) := by
          refine Lib.hid ?_
          rw [HTk.out]
          intro y hy
          rw [List.mem_append] at hy
          rcases hy with hy | hy
          · exact hA.out y hy
          · rw [List.mem_singleton] at hy; rw [hy]; exact hmb
        unfold wordV wordC at HC
        clear hA HTk hmb
        go_wp2_with (go_at_call 26; refine (HC _).out.mono ?_; rintro e w3 ⟨rfl, hB3⟩)
        have HB3 := Lib.hid (HB0.out.trans (hB3.mono HB0.out.size))
        clear hB3
        go_wp2
        go_roundw
        case rel => exact ⟨m + 1, by go_num, by omega, HA2, HB3⟩
        case measure => simp [intOf]; omega
      | false =>
        rw [hmb] at HC
        have HR : Hid (printR l = (⟨#[]⟩, 2)) := by
          refine Lib.hid ?_
          unfold printR
          rw [if_neg]
          intro h
          have := List.all_eq_true.1 h _ (List.mem_of_getElem? HXm.out)
          rw [hmb] at this
          cases this
        unfold wordV wordC at HC
        clear hA HTk hmb
        go_wp2_with (go_at_call 26; refine (HC _).out.mono ?_; rintro e w3 ⟨rfl, hB3⟩)
        have HB3 := Lib.hid (HB0.out.trans (hB3.mono HB0.out.size))
        clear hB3
        go_wp2
        go_ret2
        exact ⟨by rw [HR.out]; rfl, HB3.out⟩
    · obtain rfl : m = n := by omega
      have HM : Hid (∀ x ∈ l, mayB x.1 = true) := by
        have := hA.out
        rw [List.take_of_length_le (by rw [HN.out]; exact Nat.le_refl _)] at this
        exact this
      have HP : Hid (printR l = if 1048576 < (joinW l).length then (⟨#[]⟩, 3) else (bytesStr (joinW l), 0)) := by
        refine Lib.hid ?_
        unfold printR
        rw [if_pos]
        rw [List.all_eq_true]
        exact HM.out
      have hO0 : Hid (wr.ownsRow w.heap.size 5 1 (.slice none 0 0) (joinW (l.take 0)).length ((joinW (l.take 0)).map byteV)) := by
        rw [List.take_zero]
        exact World.ownsRow_nil _ _ _ _
      have hB0 := hB
      obtain ⟨wq, hwq⟩ : ∃ wq : World, wq = wr := ⟨_, rfl⟩
      rw [← hwq] at hO0 hB0 ⊢
      clear hA hB hm hszr hwq
      go_wp2
      go_loopw [6, 21] (fun q i wr => ∃ (k : Nat), i = .int .i64 k ∧ k ≤ m ∧ Hid (wr.ownsRow w.heap.size 5 1 q (joinW (l.take k)).length ((joinW (l.take k)).map byteV)) ∧ Hid (Below w.heap.size w wr) ∧ (joinW (l.take k)).length ≤ 5000000)
        (fun _ i _ => m - (intOf i).toNat)
      case atStart => exact ⟨0, rfl, Nat.zero_le _, hO0, hB0, by rw [List.take_zero]; simp [joinW]⟩
      case round =>
        clear hO0 hB0
        obtain ⟨k, rfl, hk, hO, hB, hjm⟩ := hrel
        have hszr := hB.out.size
        have hjl := joinW_take l k
        by_cases hlt2 : k < m
        · have HXm : Hid (l[k]? = some (l[k]'(by rw [HN.out]; exact hlt2))) := Lib.hid (List.getElem?_eq_getElem _)
          obtain ⟨x, hx⟩ : ∃ x, l[k]'(by rw [HN.out]; exact hlt2) = x := ⟨_, rfl⟩
          rw [hx] at HXm
          clear hx
          have hxs := HX.out x (List.mem_of_getElem? HXm.out)
          have hmb := HM.out x (List.mem_of_getElem? HXm.out)
          have HTk : Hid (l.take (k + 1) = l.take k ++ [x]) := Lib.hid (by rw [List.take_add_one, HXm.out]; rfl)
          obtain ⟨x, ax⟩ := x
          dsimp only at hxs hmb
          obtain ⟨⟨hxa, hxb⟩, hxn0, hxn1⟩ := hxs
          have HXB : Hid (k ≠ 0 → x.txt.size ≤ 140737488351232) := Lib.hid fun h => hxb.resolve_left (by rw [HN.out]; omega)
          clear hxb
          have hw1 := wordF_long x hmb
          have hw2 := wordF_len x hxn0 hxn1
          have hjl2 := joinW_take l (k + 1)
          obtain ⟨g, off, rfl, hW⟩ := HD.out k _ HXm.out
          have hW := hW.below hB.out hW.lt
          have bg := hW.lt
          obtain ⟨c0, c1, c2, c3, c4, c5, c6, c7⟩ := hW
          dsimp only at c0 c1 c2 c3 c4 c5 c6 c7
          have n1 : (k : Int) < (m : Int) := by omega
          obtain ⟨sa, sc, rfl⟩ := own_slice hO.out
          have HB0 : Hid (Below w.heap.size w (wr.alloc (.cells (wordC x ax) 35))) := hB.out.alloc hszr _
          have HO0 : Hid ((wr.alloc (.cells (wordC x ax) 35)).ownsRow w.heap.size 5 1 (.slice sa (joinW (l.take k)).length sc) (joinW (l.take k)).length ((joinW (l.take k)).map byteV)) := hO.out.alloc _
          have hsz0 : w.heap.size ≤ (wr.alloc (.cells (wordC x ax) 35)).heap.size := HB0.out.size
          by_cases hk0 : k = 0
          · have hsn : joinW (l.take (k + 1)) = joinW (l.take k) ++ wordF x := by rw [HTk.out, hk0, List.take_zero]; simp [joinW, tailW]
            have hlen := congrArg List.length hsn
            rw [List.length_append] at hlen
            have n0 : ¬ (0 : Int) < (k : Int) := by omega
            have hj0 : (joinW (l.take k)).length ≤ 0 := by rw [hk0]; simp [joinW]
            have HC := fun hsm : x.txt.size ≤ 1048576 => Lib.hid (appendWord_any (.slice sa (joinW (l.take k)).length sc) (joinW (l.take k)) x ax hsm hxn0 hxn1 w.heap.size (wr.alloc (.cells (wordC x ax) 35)) (HG.out.above HG.out.big HB0.out) HG.out.big HO0.out hsz0 (by omega))
            rw [← hsn] at HC
            clear hO HTk hsn hk0
            unfold wordC at HO0 HB0 hsz0 HC
            unfold wordV wordC at HC
            by_cases hbig : 1048576 < (joinW (l.take k)).length + x.txt.size
            · have n2 : (1048576 : Int) < ((joinW (l.take k)).length : Int) + (x.txt.size : Int) := by omega
              have HR : Hid (printR l = (⟨#[]⟩, 3)) := Lib.hid (HP.out.trans (if_pos (by omega)))
              clear HC
              go_wp2
              go_ret2
              exact ⟨by rw [HR.out]; rfl, HB0.out⟩
            · have n2 : ¬ (1048576 : Int) < ((joinW (l.take k)).length : Int) + (x.txt.size : Int) := by omega
              have HC := HC (by omega)
              go_wp2_with (go_at_call 27; refine HC.out.mono ?_; rintro e w3 ⟨v3, rfl, hown3, hk3, hB3⟩)
              have HO3 := Lib.hid hown3
              have HB3 := Lib.hid (HB0.out.trans hB3)
              clear hown3 hk3 hB3 HC HO0 HB0
              go_wp2
              go_roundw
              case rel => exact ⟨k + 1, by go_num, by omega, HO3, HB3, by omega⟩
              case measure => simp [intOf]; omega
          · have hne : l.take k ≠ [] := fun h => by
              have := congrArg List.length h
              rw [List.length_take, HN.out] at this
              simp at this
              omega
            have hsn : joinW (l.take (k + 1)) = joinW (l.take k) ++ [32] ++ wordF x := by rw [HTk.out]; exact joinW_snoc _ _ hne
            have hlen := congrArg List.length hsn
            rw [List.length_append, List.length_append, List.length_singleton] at hlen
            have n0 : (0 : Int) < (k : Int) := by omega
            have hxc := HXB.out hk0
            have HC := fun (hsm : x.txt.size ≤ 1048576) (w1 : World) (v1 : Value) (hB1 : Below w.heap.size w w1) (ho : w1.ownsRow w.heap.size 5 1 v1 ((joinW (l.take k)).length + 1) ((joinW (l.take k)).map byteV ++ [.int .u8 32])) =>
              Lib.hid (appendWord_any v1 (joinW (l.take k) ++ [32]) x ax hsm hxn0 hxn1 w.heap.size w1 (HG.out.above HG.out.big hB1) HG.out.big (by rw [List.length_append, List.map_append]; exact ho) hB1.size (by rw [List.length_append, List.length_singleton]; omega))
            rw [← hsn] at HC
            clear hO HTk hsn hne
            have HW := Lib.hid (Blk.new wr 35 (wordC x ax))
            unfold wordC at HO0 HB0 hsz0 HW
            unfold wordV wordC at HC
            by_cases hbig : 1048576 < (joinW (l.take k)).length + 1 + x.txt.size
            · have n2 : (1048576 : Int) < ((joinW (l.take k)).length : Int) + 1 + (x.txt.size : Int) := by omega
              have HR : Hid (printR l = (⟨#[]⟩, 3)) := Lib.hid (HP.out.trans (if_pos (by omega)))
              clear HC
              go_wp2_with (at_builtin; refine wpList_append_own _ rfl _ _ 58 rfl w.heap.size 5 i0 (.int .u8 0) 1 1 Tryz.underlying58 hi hz0 hz1 hz2 rfl (by decide) _ _ _ rfl (HO0.out.alloc _) ⟨wr.heap.size + 1, 0, none⟩ 1 1 [.int .u8 32] rfl rfl (cell_one_next _ _ _ _) (by simp [Value.oneCell']) (by unfold maxLen; omega) (by omega) (by simp; omega) ?_; intro v1 w1 hown1 hgrow _; have hf2 := own_fin (HO0.out.alloc (.cells #[.int .u8 32] 5)) ((Lib.OthersKept.refl 5 none _).alloc _) ((Below.refl w.heap.size _).alloc hsz0 _) hsz0 hgrow; have hb2 := blk_others HW.out (by decide) hf2.1; have d0 : w1.cell? ⟨wr.heap.size, 0, none⟩ = some (.int .i64 x.kind) := hb2.cell 0; have d1 : w1.cell? ⟨wr.heap.size, 1, none⟩ = some (.int .i64 ax) := hb2.cell 1; have d2 : w1.cell? ⟨wr.heap.size, 2, none⟩ = some (.string x.txt) := hb2.cell 2; have d3 : w1.cell? ⟨wr.heap.size, 3, none⟩ = some (.int .u64 (wdI x.set 0)) := hb2.cell 3; have d4 : w1.cell? ⟨wr.heap.size, 4, none⟩ = some (.int .u64 (wdI x.set 1)) := hb2.cell 4; have d5 : w1.cell? ⟨wr.heap.size, 5, none⟩ = some (.int .u64 (wdI x.set 2)) := hb2.cell 5; have d6 : w1.cell? ⟨wr.heap.size, 6, none⟩ = some (.int .u64 (wdI x.set 3)) := hb2.cell 6; have d7 : w1.cell? ⟨wr.heap.size, 7, none⟩ = some (.int .i64 x.num) := hb2.cell 7; obtain ⟨sb, sd, rfl⟩ := own_slice hown1)
              go_ret2
              exact ⟨by rw [HR.out]; rfl, HB0.out.trans hf2.2⟩
            · have n2 : ¬ (1048576 : Int) < ((joinW (l.take k)).length : Int) + 1 + (x.txt.size : Int) := by omega
              have HC := HC (by omega)
              go_wp2_with (first
                | (at_builtin; refine wpList_append_own _ rfl _ _ 58 rfl w.heap.size 5 i0 (.int .u8 0) 1 1 Tryz.underlying58 hi hz0 hz1 hz2 rfl (by decide) _ _ _ rfl (HO0.out.alloc _) ⟨wr.heap.size + 1, 0, none⟩ 1 1 [.int .u8 32] rfl rfl (cell_one_next _ _ _ _) (by simp [Value.oneCell']) (by unfold maxLen; omega) (by omega) (by simp; omega) ?_; intro v1 w1 hown1 hgrow _; have hf2 := own_fin (HO0.out.alloc (.cells #[.int .u8 32] 5)) ((Lib.OthersKept.refl 5 none _).alloc _) ((Below.refl w.heap.size _).alloc hsz0 _) hsz0 hgrow; have hb2 := blk_others HW.out (by decide) hf2.1; have d0 : w1.cell? ⟨wr.heap.size, 0, none⟩ = some (.int .i64 x.kind) := hb2.cell 0; have d1 : w1.cell? ⟨wr.heap.size, 1, none⟩ = some (.int .i64 ax) := hb2.cell 1; have d2 : w1.cell? ⟨wr.heap.size, 2, none⟩ = some (.string x.txt) := hb2.cell 2; have d3 : w1.cell? ⟨wr.heap.size, 3, none⟩ = some (.int .u64 (wdI x.set 0)) := hb2.cell 3; have d4 : w1.cell? ⟨wr.heap.size, 4, none⟩ = some (.int .u64 (wdI x.set 1)) := hb2.cell 4; have d5 : w1.cell? ⟨wr.heap.size, 5, none⟩ = some (.int .u64 (wdI x.set 2)) := hb2.cell 5; have d6 : w1.cell? ⟨wr.heap.size, 6, none⟩ = some (.int .u64 (wdI x.set 3)) := hb2.cell 6; have d7 : w1.cell? ⟨wr.heap.size, 7, none⟩ = some (.int .i64 x.num) := hb2.cell 7; obtain ⟨sb, sd, rfl⟩ := own_slice hown1)
                | (go_at_call 27; refine (HC _ _ (HB0.out.trans hf2.2) hown1).out.mono ?_; rintro e w3 ⟨v3, rfl, hown3, hk3, hB3⟩))
              have HO3 := Lib.hid hown3
              have HB3 := Lib.hid ((HB0.out.trans hf2.2).trans hB3)
              clear hown3 hk3 hB3 HC HO0 HB0
              go_wp2
              go_roundw
              case rel => exact ⟨k + 1, by go_num, by omega, HO3, HB3, by omega⟩
              case measure => simp [intOf]; omega
        · obtain rfl : k = m := by omega
          have hjt : joinW (l.take k) = joinW l := by rw [List.take_of_length_le (by rw [HN.out]; exact Nat.le_refl _)]
          rw [hjt] at hO
          clear hjt hjl hjm
          obtain ⟨sa, sc, rfl⟩ := own_slice hO.out
          have hcv := conv_owns hO.out
          by_cases hbig : 1048576 < (joinW l).length
          · have n2 : (1048576 : Int) < ((joinW l).length : Int) := by omega
            have HR : Hid (printR l = (⟨#[]⟩, 3)) := Lib.hid (HP.out.trans (if_pos hbig))
            go_wp2
            go_ret2
            exact ⟨by rw [HR.out]; rfl, hB.out⟩
          · have n2 : ¬ (1048576 : Int) < ((joinW l).length : Int) := by omega
            have HR : Hid (printR l = (bytesStr (joinW l), 0)) := Lib.hid (HP.out.trans (if_neg hbig))
            go_wp2
            go_ret2
            exact ⟨by rw [HR.out]; rfl, hB.out⟩
end Go.Proofs.YtdodkbpagbblmaaGreatDoor
end
section
namespace Go.Proofs.YtdodkbpagbblmaaGreatDoor
open Go Go.RowKit

theorem lex_ok (t : ByteArray) (ws : List (Wd × Nat)) (h : lexAt t.data.toList 0 = (ws, none)) (ht : t.size ≤ 1048576) (w : World) (hG : GlobD w) :
    Calls Tryz.prog 7 #[.string t] w fun e w' => ∃ v, e = .returned (.tuple #[v, .int .i64 0, .int .i64 0]) ∧ w'.ownsRow w.heap.size 35 8 v ws.length (cellsW ws) ∧ Below w.heap.size w w' := by
  refine (lex_any t w hG).mono ?_
  rintro e w' ⟨hB, h1 | h1 | h1⟩
  · omega
  · obtain ⟨_, a, ha, _⟩ := h1
    rw [h] at ha
    cases ha
  · obtain ⟨_, _, v, he, ho⟩ := h1
    rw [h] at ho
    exact ⟨v, he, ho, hB⟩
theorem lex_bad (t : ByteArray) (a : Nat) (h : (lexAt t.data.toList 0).2 = some a) (ht : t.size ≤ 1048576) (w : World) (hG : GlobD w) :
    Calls Tryz.prog 7 #[.string t] w fun e w' => e = .returned (.tuple #[.slice none 0 0, .int .i64 a, .int .i64 130]) ∧ Below w.heap.size w w' := by
  refine (lex_any t w hG).mono ?_
  rintro e w' ⟨hB, h1 | h1 | h1⟩
  · omega
  · obtain ⟨_, b, hb, he⟩ := h1
    rw [h] at hb
    cases hb
    exact ⟨he, hB⟩
  · obtain ⟨_, h2, _⟩ := h1
    rw [h] at h2
    cases h2

/-- Words with their places as numbers. -/
def withI (ws : List (Wd × Nat)) : List (Wd × Int) := ws.map fun p => (p.1, (p.2 : Int))
theorem cellsW_at (ws : List (Wd × Nat)) : ∀ (i : Nat) (x : Wd × Nat), ws[i]? = some x → ∀ j, j < 8 → (cellsW ws)[i * 8 + j]? = (wcells x)[j]? := by
  induction ws with
  | nil => intro i x hx; simp at hx
  | cons r rs ih =>
    intro i x hx j hj
    have hc : cellsW (r :: rs) = wcells r ++ cellsW rs := by simp [cellsW]
    rw [hc]
    cases i with
    | zero =>
      simp at hx
      subst hx
      rw [Nat.zero_mul, Nat.zero_add, List.getElem?_append_left (by simp [wcells]; omega)]
    | succ i =>
      have h := ih i x (by simpa using hx) j hj
      rw [List.getElem?_append_right (by simp [wcells]; omega), ← h]
      congr 1
      simp [wcells]
      omega
/-- Words as they lie behind a slice that owns them. -/
theorem own_rowW {w : World} {n₀ : Nat} {v : Value} {ws : List (Wd × Nat)} (h : w.ownsRow n₀ 35 8 v ws.length (cellsW ws)) : ∃ a cap, v = .slice a ws.length cap ∧ RowW w a (withI ws) := by
  rcases h.2 with ⟨rfl, h0⟩ | ⟨g, cap, cur, rfl, _⟩
  · have : ws = [] := List.length_eq_zero_iff.1 h0
    subst this
    exact ⟨none, 0, rfl, fun i x hx => by simp [withI] at hx⟩
  · refine ⟨_, cap, rfl, fun i x hx => ?_⟩
    obtain ⟨y, hy, rfl⟩ : ∃ y, ws[i]? = some y ∧ (y.1, (y.2 : Int)) = x := by
      unfold withI at hx
      rw [List.getElem?_map] at hx
      simpa using hx
    have hi := (List.getElem?_eq_some_iff.1 hy).1
    have hc := cellsW_at ws i y hy
    have k : ∀ j, j < 8 → w.cell? ⟨g, 0 + i * 8 + j, none⟩ = (wcells y)[j]? := fun j hj => by
      rw [Nat.zero_add, h.cellAt (i * 8 + j) (by omega)]; exact hc j hj
    exact ⟨g, 0, rfl, k 0 (by omega), k 1 (by omega), k 2 (by omega), k 3 (by omega), k 4 (by omega), k 5 (by omega), k 6 (by omega), k 7 (by omega)⟩
theorem withI_len (ws : List (Wd × Nat)) : (withI ws).length = ws.length := by simp [withI]

theorem num_any (n : Int) (w : World) : Calls Tryz.prog 9 #[.int .i64 n] w fun e w' => e = .returned (.int .i64 n) ∧ w = w' := by
  go_enter Tryz.func9, Tryz.ntmps9
  go_wp2
  go_ret
  simp
end Go.Proofs.YtdodkbpagbblmaaGreatDoor
end
