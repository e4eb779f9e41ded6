import Derived.Deep.DeepCutAuto
import Derived.Test.YtegmoeeeomjkgaaDoorTo
import Derived.Test.YtegmoeeeomjkgaaDoorRefH
namespace Go.Proofs.YtegmoeeeomjkgaaDoor
open Go Go.RowKit

/-- A set's ranges go up. -/
theorem rngs_le (s : BS) : ∀ k, k ≤ (bytesL s).length → ∀ r ∈ rngs ((bytesL s).take k), r.1 ≤ r.2 := by
  intro k
  induction k with
  | zero => intro _ r hr; simp [rngs] at hr
  | succ k ih =>
    intro hk r hr
    have hx : (bytesL s)[k]? = some (bytesL s)[k] := List.getElem?_eq_getElem (by omega)
    have hge := bytesL_ge s k _ hx
    have hlt := ((mem_bytesL s _).1 (List.mem_of_getElem? hx)).1
    obtain ⟨x, hx2⟩ : ∃ x, (bytesL s)[k] = x := ⟨_, rfl⟩
    rw [hx2] at hx hge hlt
    rw [List.take_add_one, hx] at hr
    have e : rngs (List.take k (bytesL s) ++ (some x).toList) = rstep (rngs ((bytesL s).take k)) x := rngs_snoc _ _
    rw [e] at hr
    have hsm : SmallR (rngs ((bytesL s).take k)) := rngs_small _ (fun y hy => ((mem_bytesL s y).1 (List.mem_of_mem_take hy)).1)
    rcases List.eq_nil_or_concat (rngs ((bytesL s).take k)) with h0 | ⟨rs', q, hcat⟩
    · rw [h0] at hr
      simp [rstep] at hr
      subst hr
      exact Nat.le_refl _
    · rw [List.concat_eq_append] at hcat
      have hk0 := rngs_take_nil _ k rs' q hcat
      have hq := ih (by omega) q (by rw [hcat]; simp)
      have hq2 := (hsm q (by rw [hcat]; simp)).2
      rw [hcat, rstep_other rs' q x hq2 hlt (by omega)] at hr
      split at hr
      · simp at hr
        rcases hr with hr | rfl
        · exact ih (by omega) r (by rw [hcat]; simp [hr])
        · simp; omega
      · simp at hr
        rcases hr with hr | rfl | rfl
        · exact ih (by omega) r (by rw [hcat]; simp [hr])
        · exact hq
        · exact Nat.le_refl _
theorem rngs_up (s : BS) : ∀ r ∈ rngs (bytesL s), r.1 ≤ r.2 := by
  have h := rngs_le s (bytesL s).length (Nat.le_refl _)
  rw [List.take_length] at h
  exact h

theorem ba_assoc (a b c : ByteArray) : (a ++ b) ++ c = a ++ (b ++ c) := by
  apply ByteArray.ext; simp [Array.append_assoc]

set_option maxRecDepth 100000 in
set_option maxHeartbeats 8000000 in
theorem rtext_any (s : BS) (w : World) :
    Calls Tryd.prog 39 #[vset s] w fun e w' => e = .returned (.string (bytesStr (textS s))) ∧ Below w.heap.size w w' := by
  have HTX : Hid (textS s = if 128 < (bytesL s).length then [91, 94] ++ rangesT (rngs (bytesL (~~~s))) ++ [93] else [91] ++ rangesT (rngs (bytesL s)) ++ [93]) := by
    refine Lib.hid ?_
    unfold textS; rw [cnt_len]
  have K1 := rbytes_any s
  have K2 := rnot_any s
  obtain ⟨ns, hns⟩ : ∃ ns, ns = ~~~s := ⟨_, rfl⟩
  rw [← hns] at K2 HTX
  clear hns
  obtain ⟨N, hN⟩ : ∃ N, N = (bytesL s).length := ⟨_, rfl⟩
  rw [← hN] at K1 HTX
  obtain ⟨TX, hTX⟩ : ∃ TX, TX = textS s := ⟨_, rfl⟩
  rw [← hTX] at HTX ⊢
  clear hTX
  unfold vset at K1 K2
  have H1 := fun w' => Lib.hid (K1 w')
  have H2 := fun w' => Lib.hid (K2 w')
  clear K1 K2
  have hzN : (bytesL s).length = N := hN.symm
  have HY : ∀ {W : World} {b : Nat} {v : Value}, W.ownsRow b 5 1 v N ((bytesL s).map byteV) → ∃ a c, v = .slice a N c := by
    intro W b v h
    rw [hN] at h ⊢
    obtain ⟨a, c, e, _⟩ := owned_rowY h
    exact ⟨a, c, e⟩
  have HYY := @HY
  clear HY hN hzN
  unfold vset
  go_enter Tryd.func39, Tryd.ntmps39
  go_wp2_with fail
  refine (H1 _).out.mono ?_
  rintro e w1 ⟨v, rfl, hown, hB1⟩
  obtain ⟨a, c, rfl⟩ := HYY hown
  have hA1 := Lib.hid ((Blk.new w 29 (cset s)).below hB1 (by simp))
  have hBB := Lib.hid (((Below.refl _ w).alloc (Nat.le_refl _) (.cells (cset s) 29)).trans (hB1.mono (by simp)))
  clear hown hB1 H1 HYY
  have c0 : w1.cell? ⟨w.heap.size, 0, none⟩ = some (.int .u64 (wdI s 0)) := hA1.out.cell 0
  have c1 : w1.cell? ⟨w.heap.size, 1, none⟩ = some (.int .u64 (wdI s 1)) := hA1.out.cell 1
  have c2 : w1.cell? ⟨w.heap.size, 2, none⟩ = some (.int .u64 (wdI s 2)) := hA1.out.cell 2
  have c3 : w1.cell? ⟨w.heap.size, 3, none⟩ = some (.int .u64 (wdI s 3)) := hA1.out.cell 3
  go_upto_if 9 with fail
  go_cut [3] (fun s3 wx => ∃ (su : BS) (hd : List Nat), s3 = .string (bytesStr hd) ∧ hd.length ≤ 2 ∧ Hid (TX = hd ++ rangesT (rngs (bytesL su)) ++ [93]) ∧ Hid (Blk wx w.heap.size 29 (cset su)) ∧ Hid (Below w.heap.size w wx))
  case first =>
    by_cases hbig : 128 < N
    · have hb' : (128 : Int) < N := by omega
      have HT2 : Hid (TX = [91, 94] ++ rangesT (rngs (bytesL ns)) ++ [93]) := Lib.hid (by rw [HTX.out, if_pos hbig])
      clear HTX
      go_wp2_with fail
      refine (H2 _).out.mono ?_
      rintro e w2 ⟨rfl, hB2⟩
      have hA2 := Lib.hid (hA1.out.below hB2 hA1.out.lt)
      have hBC := Lib.hid (hBB.out.trans (hB2.mono hBB.out.size))
      clear hA1 hBB hB2 H2 c0 c1 c2 c3
      have c0 : w2.cell? ⟨w.heap.size, 0, none⟩ = some (.int .u64 (wdI s 0)) := hA2.out.cell 0
      have c1 : w2.cell? ⟨w.heap.size, 1, none⟩ = some (.int .u64 (wdI s 1)) := hA2.out.cell 1
      have c2 : w2.cell? ⟨w.heap.size, 2, none⟩ = some (.int .u64 (wdI s 2)) := hA2.out.cell 2
      have c3 : w2.cell? ⟨w.heap.size, 3, none⟩ = some (.int .u64 (wdI s 3)) := hA2.out.cell 3
      have fz : ∀ i, w2.frozen? ⟨w.heap.size, i, none⟩ = false := hA2.out.frozen
      go_wp2_with fail
      go_meet
      exact ⟨ns, [91, 94], rfl, by simp, HT2, hA2.out.set4 _ _ _ _, below_set4 hBC.out (Nat.le_refl _) _ _ _ _⟩
    · have hb' : ¬ (128 : Int) < N := by omega
      have HT2 : Hid (TX = [91] ++ rangesT (rngs (bytesL s)) ++ [93]) := Lib.hid (by rw [HTX.out, if_neg hbig])
      clear HTX
      go_wp2_with fail
      go_meet
      exact ⟨s, [91], rfl, by simp, HT2, hA1, hBB⟩
  case rest =>
    obtain ⟨wb, rfl⟩ : ∃ wb : World, wb = wc := ⟨_, rfl⟩
    obtain ⟨su, hd, rfl, hhd, HT2, hA, hB⟩ := hcut
    clear hA1 hBB H2 HTX c0 c1 c2 c3
    have K3 := rranges_any su
    have hrl := rngs_length (bytesL su)
    have hbl := length_bytesL su
    have hsm := rngs_small (bytesL su) (fun x hx => ((mem_bytesL su x).1 hx).1)
    have hup := rngs_up su
    obtain ⟨R, hR⟩ : ∃ R, R = rngs (bytesL su) := ⟨_, rfl⟩
    rw [← hR] at K3 hrl hsm hup HT2
    have hR2 : R.length ≤ 256 := by omega
    clear hR hrl hbl
    have HSM := Lib.hid hsm
    have HUP := Lib.hid hup
    clear hsm hup
    unfold vset at K3
    have H3 := fun w' => Lib.hid (K3 w')
    clear K3
    have c0 : wb.cell? ⟨w.heap.size, 0, none⟩ = some (.int .u64 (wdI su 0)) := hA.out.cell 0
    have c1 : wb.cell? ⟨w.heap.size, 1, none⟩ = some (.int .u64 (wdI su 1)) := hA.out.cell 1
    have c2 : wb.cell? ⟨w.heap.size, 2, none⟩ = some (.int .u64 (wdI su 2)) := hA.out.cell 2
    have c3 : wb.cell? ⟨w.heap.size, 3, none⟩ = some (.int .u64 (wdI su 3)) := hA.out.cell 3
    go_wp2_with fail
    refine (H3 _).out.mono ?_
    rintro e w5 ⟨v, rfl, hown, hB5⟩
    obtain ⟨ar, cr, rfl, hrow⟩ := owned_rowR hown
    have HR := Lib.hid hrow
    have HB := Lib.hid (hB.out.trans (hB5.mono hB.out.size))
    clear hown hrow hB5 hA hB H3 c0 c1 c2 c3
    have hO0 := bytesStr_size hd
    obtain ⟨O0, hO0e⟩ : ∃ O0, O0 = bytesStr hd := ⟨_, rfl⟩
    have hO0s : O0.size ≤ 2 := by rw [hO0e, hO0]; exact hhd
    have HO0 := Lib.hid hO0e
    rw [← hO0e]
    clear hO0e hO0
    go_wp2
    go_loopw [3, 5] (fun q i wr => ∃ (k : Nat) (O : ByteArray), i = .int .i64 k ∧ q = .string O ∧ k ≤ R.length ∧ O.size ≤ 9 * k + 2 ∧ Hid (O = bytesStr (hd ++ rangesT (R.take k))) ∧ Hid (Below w5.heap.size w5 wr))
      (fun _ i _ => R.length - (intOf i).toNat)
    case atStart => exact ⟨0, O0, rfl, rfl, Nat.zero_le _, by omega, by refine Lib.hid ?_; rw [HO0.out]; simp [rangesT], Below.refl _ _⟩
    case round =>
      clear HO0 hO0s
      obtain ⟨k, O, rfl, rfl, hk, hOs, hO, hW⟩ := hrel
      by_cases hlt : k < R.length
      · have HX : Hid (R[k]? = some R[k]) := Lib.hid (List.getElem?_eq_getElem hlt)
        obtain ⟨x1, x2⟩ := HSM.out R[k] (List.getElem_mem hlt)
        have x3 := HUP.out R[k] (List.getElem_mem hlt)
        obtain ⟨x, hx⟩ : ∃ x, R[k] = x := ⟨_, rfl⟩
        rw [hx] at HX x1 x2 x3
        clear hx
        obtain ⟨f, t⟩ := x
        dsimp only at x1 x2 x3
        have HL : Hid (∀ X, X = rangeT (f, t) → O ++ bytesStr X = bytesStr (hd ++ rangesT (R.take (k + 1)))) := by
          refine Lib.hid fun X hX => ?_
          rw [hO.out, hX, bytesStr_append, List.take_add_one, HX.out]
          show bytesStr (hd ++ rangesT (R.take k) ++ rangeT (f, t)) = bytesStr (hd ++ rangesT (R.take k ++ [(f, t)]))
          rw [rangesT_snoc, List.append_assoc]
        obtain ⟨b', off, hab, e1, e2⟩ := HR.out k _ HX.out
        have r1 : wr.cell? ⟨b', off + k * 2, none⟩ = some (.int .u8 f) := (hW.out.cell (p := ⟨b', _, none⟩) (lt_of_cell e1)).trans e1
        have r2 : wr.cell? ⟨b', off + k * 2 + 1, none⟩ = some (.int .u8 t) := (hW.out.cell (p := ⟨b', _, none⟩) (lt_of_cell e1)).trans e2
        subst hab
        have O1 := fun w' => Lib.hid (rone_any f x1 w')
        have O2 := fun w' => Lib.hid (rone_any t x2 w')
        have s1 := bytesStr_size (byteT f)
        have s2 := bytesStr_size (byteT t)
        have l1 := byteT_len f
        have l2 := byteT_len t
        obtain ⟨F1, hF1⟩ : ∃ F1, F1 = bytesStr (byteT f) := ⟨_, rfl⟩
        obtain ⟨F2, hF2⟩ : ∃ F2, F2 = bytesStr (byteT t) := ⟨_, rfl⟩
        rw [← hF1] at O1 s1
        rw [← hF2] at O2 s2
        have hF1s : F1.size ≤ 4 := by omega
        have hF2s : F2.size ≤ 4 := by omega
        have HF1 := Lib.hid hF1
        have HF2 := Lib.hid hF2
        clear hF1 hF2 s1 s2 l1 l2
        go_wp2_with fail
        refine (O1 _).out.mono ?_
        rintro e w6 ⟨rfl, hB6⟩
        have q1 : w6.cell? ⟨b', off + k * 2, none⟩ = some (.int .u8 f) := (hB6.cell (p := ⟨b', _, none⟩) (lt_of_cell r1)).trans r1
        have q2 : w6.cell? ⟨b', off + k * 2 + 1, none⟩ = some (.int .u8 t) := (hB6.cell (p := ⟨b', _, none⟩) (lt_of_cell r1)).trans r2
        have hW6 := Lib.hid (hW.out.trans (hB6.mono hW.out.size))
        clear hB6 hW r1 r2 O1
        have hw1 : IntKind.i64.wrap (t : Int) = (t : Int) := IntWalk.i64_in _ (by omega)
        have hw2 : IntKind.i64.wrap (f : Int) = (f : Int) := IntWalk.i64_in _ (by omega)
        have hw3 : IntKind.i64.wrap ((t : Int) - (f : Int)) = (t : Int) - (f : Int) := IntWalk.i64_in _ (by omega)
        have hOb : O.size ≤ 3000 := by omega
        by_cases heq : f = t
        · subst heq
          have HLL : Hid (O ++ F1 = bytesStr (hd ++ rangesT (R.take (k + 1)))) := by
            refine Lib.hid ?_
            rw [HF1.out]
            refine HL.out _ ?_
            unfold rangeT; simp
          clear HL
          go_wp2_with fail
          go_region
          go_wp2_with fail
          go_region
          go_wp2
          go_roundw
          case rel => exact ⟨k + 1, O ++ F1, by go_num, rfl, by omega, by rw [ByteArray.size_append]; omega, HLL, hW6.out.drew.drew⟩
          case measure => simp [intOf]; omega
        · by_cases hgt : 1 < t - f
          · have k1 : decide ((1 : Int) < (t : Int) - (f : Int)) = true := by simp; omega
            have k2 : ((t : Int) != (f : Int)) = true := by simp; omega
            have HLL : Hid (((O ++ F1) ++ ⟨#[45]⟩) ++ F2 = bytesStr (hd ++ rangesT (R.take (k + 1)))) := by
              refine Lib.hid ?_
              rw [HF1.out, HF2.out, ba_assoc, ba_assoc]
              rw [show (⟨#[45]⟩ : ByteArray) = bytesStr [45] from rfl, bytesStr_append, bytesStr_append]
              refine HL.out _ ?_
              unfold rangeT
              rw [if_neg heq, if_pos (by simp; omega)]
              simp
            have hz : (⟨#[45]⟩ : ByteArray).size = 1 := rfl
            clear HL
            go_wp2_with fail
            go_region
            go_wp2_with fail
            go_region
            go_wp2_with fail
            refine (O2 _).out.mono ?_
            rintro e w7 ⟨rfl, hB7⟩
            have hW7 := Lib.hid (hW6.out.drew.drew.trans (hB7.mono hW6.out.size))
            clear hB7 hW6 q1 q2 O2
            go_wp2
            go_roundw
            case rel => exact ⟨k + 1, _, by go_num, rfl, by omega, by rw [ByteArray.size_append, ByteArray.size_append, ByteArray.size_append, hz]; omega, HLL, hW7⟩
            case measure => simp [intOf]; omega
          · have k1 : decide ((1 : Int) < (t : Int) - (f : Int)) = false := by simp; omega
            have k2 : ((t : Int) != (f : Int)) = true := by simp; omega
            have HLL : Hid ((O ++ F1) ++ F2 = bytesStr (hd ++ rangesT (R.take (k + 1)))) := by
              refine Lib.hid ?_
              rw [HF1.out, HF2.out, ba_assoc, bytesStr_append]
              refine HL.out _ ?_
              unfold rangeT
              rw [if_neg heq, if_neg (by simp; omega)]
            clear HL
            go_wp2_with fail
            go_region
            go_wp2_with fail
            go_region
            go_wp2_with fail
            refine (O2 _).out.mono ?_
            rintro e w7 ⟨rfl, hB7⟩
            have hW7 := Lib.hid (hW6.out.drew.drew.trans (hB7.mono hW6.out.size))
            clear hB7 hW6 q1 q2 O2
            go_wp2
            go_roundw
            case rel => exact ⟨k + 1, _, by go_num, rfl, by omega, by rw [ByteArray.size_append, ByteArray.size_append]; omega, HLL, hW7⟩
            case measure => simp [intOf]; omega
      · obtain rfl : k = R.length := by omega
        rw [List.take_length] at hO
        have HE : Hid (O ++ bytesStr [93] = bytesStr TX) := by
          refine Lib.hid ?_
          rw [hO.out, bytesStr_append, HT2.out]
        have hz : (bytesStr [93]).size = 1 := bytesStr_size [93]
        go_wp2
        go_ret
        exact ⟨by rw [← HE.out]; rfl, HB.out.trans (hW.out.mono HB.out.size)⟩
end Go.Proofs.YtegmoeeeomjkgaaDoor
