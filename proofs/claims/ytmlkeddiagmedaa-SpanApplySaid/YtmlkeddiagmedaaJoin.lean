import Derived.Test.YtmlkeddiagmedaaOwn
import Derived.BigQuiet
namespace Go.Proofs.Ytmlkeddiagmedaa
open Go.RowKit

def touches (y x : Ed) : Prop := x.2.2 = ⟨#[]⟩ ∧ y.2.2 = ⟨#[]⟩ ∧ y.2.1 = x.1

open Classical in
noncomputable def joinStep (J : List Ed) (x : Ed) : List Ed :=
  match J.getLast? with
  | some y => if touches y x then J.dropLast ++ [(y.1, x.2.1, y.2.2)] else J ++ [x]
  | none => J ++ [x]
noncomputable def joinA (d : List Ed) : List Ed := d.foldl joinStep []

theorem joinStep_nil (x : Ed) : joinStep [] x = [x] := rfl
theorem joinStep_hit (J : List Ed) (y x : Ed) (h : touches y x) : joinStep (J ++ [y]) x = J ++ [(y.1, x.2.1, y.2.2)] := by
  unfold joinStep
  simp [h]
theorem joinStep_miss (J : List Ed) (y x : Ed) (h : ¬ touches y x) : joinStep (J ++ [y]) x = J ++ [y] ++ [x] := by
  unfold joinStep
  simp [h]
theorem joinA_snoc (d : List Ed) (x : Ed) : joinA (d ++ [x]) = joinStep (joinA d) x := by simp [joinA]
theorem joinStep_len (J : List Ed) (x : Ed) : (joinStep J x).length ≤ J.length + 1 := by
  rcases List.eq_nil_or_concat J with rfl | ⟨J0, y, rfl⟩
  · simp [joinStep_nil]
  · rw [List.concat_eq_append]
    by_cases h : touches y x
    · rw [joinStep_hit _ _ _ h]; simp
    · rw [joinStep_miss _ _ _ h]; simp
theorem joinA_len (d : List Ed) : ∀ k, (joinA (d.take k)).length ≤ k
  | 0 => by simp [joinA]
  | k + 1 => by
    by_cases hk : k < d.length
    · rw [take_snoc d k d[k] (by simp [hk]), joinA_snoc]
      have := joinStep_len (joinA (d.take k)) d[k]
      have := joinA_len d k
      omega
    · have h1 := joinA_len d k
      rw [List.take_of_length_le (by omega)] at h1 ⊢
      omega

theorem infoEd : (Try.prog.info? 42).map (fun i => (i.zero, i.size, i.bytes)) = some (some (.agg #[.int .i64 0, .int .i64 0, .string ⟨#[]⟩]), 3, 32) := by kernel_rfl


theorem newEd_cells (W : World) (x : Ed) : ∀ j u, ([.int .i64 x.1, .int .i64 x.2.1, .string x.2.2] : List Value)[j]? = some u → (W.alloc (.cells #[.int .i64 x.1, .int .i64 x.2.1, .string x.2.2] 42)).cell? ((⟨W.heap.size, 0, none⟩ : Addr).add j) = some u := by
  intro j u hj
  have hb := Blk.new W 42 #[.int .i64 x.1, .int .i64 x.2.1, .string x.2.2]
  have e : (⟨W.heap.size, 0, none⟩ : Addr).add j = ⟨W.heap.size, j, none⟩ := by unfold Addr.add; split <;> simp_all
  rw [e, hb.cell j]
  match j, hj with
  | 0, hj => exact hj
  | 1, hj => exact hj
  | 2, hj => exact hj

theorem newEd_one (x : Ed) : ∀ u ∈ ([.int .i64 x.1, .int .i64 x.2.1, .string x.2.2] : List Value), u.oneCell' = true := by
  intro u hu
  simp at hu
  rcases hu with rfl | rfl | rfl <;> rfl

theorem below_drewN {n : Nat} {w W : World} (h : Below n w W) (k : Nat) : Below n w (W.drewN k) := ⟨h.os, h.tape, h.output, h.size, h.block⟩
theorem ba_ne {t : ByteArray} (h : t ≠ ⟨#[]⟩) : (t.toList == []) = false := by
  rw [beq_eq_false_iff_ne, ByteArray.toList_eq]
  exact fun e => h (ByteArray.ext (Array.toList_inj.mp e))
theorem ba_eq {t : ByteArray} (h : t = ⟨#[]⟩) : (t.toList == []) = true := by
  subst h
  rw [ByteArray.toList_eq]; rfl
theorem one_size (W : World) (o : Obj) (n : Nat) : ((W.alloc o).drewN n).heap.size = W.heap.size + 1 := by
  show (W.alloc o).heap.size = _
  simp
theorem two_size (W : World) (o o' : Obj) (n : Nat) : (((W.alloc o).drewN n).alloc o').heap.size = W.heap.size + 2 := by
  have := one_size W o n
  simp
theorem newEd_cells2 (W : World) (x : Ed) (o : Obj) (n : Nat) : ∀ j u, ([.int .i64 x.1, .int .i64 x.2.1, .string x.2.2] : List Value)[j]? = some u → (((W.alloc o).drewN n).alloc (.cells #[.int .i64 x.1, .int .i64 x.2.1, .string x.2.2] 42)).cell? ((⟨W.heap.size + 1, 0, none⟩ : Addr).add j) = some u := by
  have h := newEd_cells ((W.alloc o).drewN n) x
  rw [one_size] at h
  exact h

set_option maxHeartbeats 1000000 in
set_option maxRecDepth 100000 in
theorem joinCuts_any (a : Option Addr) (cap : Nat) (d : List Ed) (w : World) (hd : RowEd w a d) (hl : d.length ≤ 1048576) :
    Calls Try.prog 34 #[.slice a d.length cap] w fun e w' => Below w.heap.size w w' ∧ ∃ v, e = .returned v ∧ OwnEd w.heap.size v (joinA d) w' := by
  obtain ⟨i0, hi, hz0, hz1, hz2⟩ := info_parts infoEd
  go_enter Try.func34, Try.ntmps34
  go_wp2
  go_loopw [3, 9] (fun v p wr => ∃ k : Nat, p = .int .i64 k ∧ k ≤ d.length ∧ Hid (OwnEd w.heap.size v (joinA (d.take k)) wr) ∧ Hid (Below w.heap.size w wr)) (fun _ p _ => d.length - (intOf p).toNat)
  case atStart => exact ⟨0, rfl, Nat.zero_le _, OwnEd.nil _ _, Below.refl _ _⟩
  case round =>
    obtain ⟨k, rfl, hk, hO, hB⟩ := hrel
    by_cases hlt : k < d.length
    · obtain ⟨x, hx⟩ : ∃ x, d[k]? = some x := ⟨d[k], by simp [hlt]⟩
      obtain ⟨b, off, rfl, x0, x1, x2⟩ := hd _ _ hx
      have hb := lt_of_cell x0
      have cx0 : wr.cell? ⟨b, off + k * 3, none⟩ = some (.int .i64 x.1) := (hB.out.cell (p := ⟨b, _, none⟩) hb).trans x0
      have cx1 : wr.cell? ⟨b, off + k * 3 + 1, none⟩ = some (.int .i64 x.2.1) := (hB.out.cell (p := ⟨b, _, none⟩) hb).trans x1
      have cx2 : wr.cell? ⟨b, off + k * 3 + 2, none⟩ = some (.string x.2.2) := (hB.out.cell (p := ⟨b, _, none⟩) hb).trans x2
      have HJ : Hid (joinA (d.take (k + 1)) = joinStep (joinA (d.take k)) x) := by
        show _ = _
        rw [take_snoc d k x hx, joinA_snoc]
      have hlen := joinA_len d k
      obtain ⟨J, hJ⟩ : ∃ J, J = joinA (d.take k) := ⟨_, rfl⟩
      rw [← hJ] at hO HJ hlen
      clear hJ x0 x1 x2 hx
      have kd : (k : Int) < (d.length : Int) := by omega
      rcases List.eq_nil_or_concat J with rfl | ⟨J0, y, rfl⟩
      · have hrest : ∃ ao c, u3 = .slice ao 0 c := by
          rcases hO.out.shape with ⟨h, _⟩ | ⟨g, c, h, _⟩
          · exact ⟨_, _, h⟩
          · exact ⟨_, _, h⟩
        obtain ⟨ao, c, rfl⟩ := hrest
        go_wp2_with fail
        go_quiet (fail)
        go_wp2_with (at_builtin; refine wpList_append_own _ rfl _ _ 39 rfl w.heap.size 42 i0 _ 3 32 Try.underlying39 hi hz0 hz1 hz2 rfl (by decide) _ _ _ rfl ((hO.out.alloc (.cells #[.int .i64 x.1, .int .i64 x.2.1, .string x.2.2] 42)).drew.alloc (.cells #[.int .i64 x.1, .int .i64 x.2.1, .string x.2.2] 42)) ⟨wr.heap.size + 1, 0, none⟩ 1 1 [.int .i64 x.1, .int .i64 x.2.1, .string x.2.2] ?c0 rfl ?c1 ?c2 ?c3 ?c4 ?c5 ?_)
        case c0 => rfl
        case c1 => exact newEd_cells2 wr x _ _
        case c2 => exact newEd_one x
        case c3 => first | (unfold maxLen; omega) | (simp at hlen ⊢; unfold maxLen; omega)
        case c4 => first | omega | (simp at hlen ⊢; omega)
        case c5 => have := hB.out.size; show _ ≤ (((wr.alloc _).drewN _).alloc _).heap.size; rw [two_size]; omega
        intro v' w1 hown' hgrow _
        have hO2 : Hid (OwnEd w.heap.size v' (joinA (d.take (k + 1))) w1) := by
          show OwnEd _ _ _ _
          rw [HJ.out, joinStep_nil]
          simpa [OwnEd, encEd] using hown'
        have hB2 : Hid (Below w.heap.size w w1) := by
          refine Below.grown ((below_drewN (hB.out.alloc hB.out.size _) _).alloc (by have := hB.out.size; show _ ≤ ((wr.alloc _).drewN _).heap.size; rw [one_size]; omega) _) hgrow (by rw [two_size]; have := hB.out.size; omega) (fun k hk => (hO.out.lt k hk).1)
        clear hown' hgrow hO hB HJ cx0 cx1 cx2
        go_wp2
        go_roundw
        case rel => exact ⟨k + 1, by go_num, by omega, hO2, hB2⟩
        case measure => simp [intOf]; omega
      · rw [List.concat_eq_append] at hO HJ hlen
        obtain ⟨g, c, rfl, hBg, hg, hcap, hmax, hfz⟩ : ∃ g c, u3 = .slice (some ⟨g, 0, none⟩) (J0 ++ [y]).length c ∧ w.heap.size ≤ g ∧ g < wr.heap.size ∧ (J0 ++ [y]).length ≤ c ∧ c ≤ maxLen ∧ (∀ j, wr.frozen? ⟨g, j, none⟩ = false) := by
          rcases hO.out.shape with ⟨_, h⟩ | h
          · simp at h
          · exact h
        obtain ⟨g', o', hgo, y0, y1, y2⟩ := hO.out.row J0.length y (by simp)
        cases hgo
        rw [show (J0 ++ [y]).length = J0.length + 1 by simp] at *
        rw [show 0 + J0.length * 3 = J0.length * 3 by omega] at y0 y1 y2
        have jb : (J0.length : Int) < ((J0.length + 1 : Nat) : Int) := by omega
        have jn : (0 : Int) ≤ (J0.length : Int) := Int.natCast_nonneg _
        have f1 : wr.frozen? ⟨g, J0.length * 3 + 1, none⟩ = false := hfz _
        clear hfz
        by_cases e1 : x.2.2 = ⟨#[]⟩
        · by_cases e2 : y.2.2 = ⟨#[]⟩
          · by_cases e3 : y.2.1 = x.1
            · have HO2 : ∀ n, Hid (OwnEd w.heap.size (.slice (some ⟨g, 0, none⟩) (J0.length + 1) c) (joinA (d.take (k + 1))) (((wr.alloc (.cells #[.int .i64 x.1, .int .i64 x.2.1, .string x.2.2] 42)).drewN n).setCell ⟨g, J0.length * 3 + 1, none⟩ (.int .i64 x.2.1))) := by
                intro n
                show OwnEd _ _ _ _
                rw [HJ.out, joinStep_hit _ _ _ ⟨e1, e2, e3⟩]
                exact OwnEd.setLast (w := (wr.alloc _).drewN n) (hO.out.alloc _)
              have HB2 : ∀ n, Hid (Below w.heap.size w (((wr.alloc (.cells #[.int .i64 x.1, .int .i64 x.2.1, .string x.2.2] 42)).drewN n).setCell ⟨g, J0.length * 3 + 1, none⟩ (.int .i64 x.2.1))) := fun n =>
                Below.setCell (p := ⟨g, _, none⟩) (below_drewN (hB.out.alloc hB.out.size _) _) hBg _
              have t1 : (x.2.2.toList == []) = true := ba_eq e1
              have t2 : (y.2.2.toList == []) = true := ba_eq e2
              have t3 : (y.2.1 == x.1) = true := by simpa using e3
              clear e1 e2 e3
              go_wp2_with fail
              go_quiet (fail)
              clear t1 t2 t3
              have HO4 := Lib.hid HO2
              have HB4 := Lib.hid HB2
              clear HO2 HB2 hB hO
              go_wp2
              go_roundw
              case rel => exact ⟨k + 1, by go_num, by omega, HO4.out _, HB4.out _⟩
              case measure => simp [intOf]; omega
            · have t1 : (x.2.2.toList == []) = true := ba_eq e1
              have t2 : (y.2.2.toList == []) = true := ba_eq e2
              have t3 : (y.2.1 == x.1) = false := by simpa using e3
              have HM : Hid (¬ touches y x) := fun h => e3 h.2.2
              clear e1 e2 e3
              go_wp2_with fail
              go_quiet (fail)
              go_wp2_with (at_builtin; refine wpList_append_own _ rfl _ _ 39 rfl w.heap.size 42 i0 _ 3 32 Try.underlying39 hi hz0 hz1 hz2 rfl (by decide) _ _ _ rfl ((hO.out.alloc (.cells #[.int .i64 x.1, .int .i64 x.2.1, .string x.2.2] 42)).drew.alloc (.cells #[.int .i64 x.1, .int .i64 x.2.1, .string x.2.2] 42)) ⟨wr.heap.size + 1, 0, none⟩ 1 1 [.int .i64 x.1, .int .i64 x.2.1, .string x.2.2] ?c0 rfl ?c1 ?c2 ?c3 ?c4 ?c5 ?_)
              case c0 => rfl
              case c1 => exact newEd_cells2 wr x _ _
              case c2 => exact newEd_one x
              case c3 => first | (unfold maxLen; omega) | (simp at hlen ⊢; unfold maxLen; omega)
              case c4 => first | omega | (simp at hlen ⊢; omega)
              case c5 => have := hB.out.size; show _ ≤ (((wr.alloc _).drewN _).alloc _).heap.size; rw [two_size]; omega
              intro v' w1 hown' hgrow _
              have hO2 : Hid (OwnEd w.heap.size v' (joinA (d.take (k + 1))) w1) := by
                show OwnEd _ _ _ _
                rw [HJ.out, joinStep_miss _ _ _ HM.out]
                simpa [OwnEd, encEd] using hown'
              have hB2 : Hid (Below w.heap.size w w1) := by
                refine Below.grown ((below_drewN (hB.out.alloc hB.out.size _) _).alloc (by have := hB.out.size; show _ ≤ ((wr.alloc _).drewN _).heap.size; rw [one_size]; omega) _) hgrow (by rw [two_size]; have := hB.out.size; omega) (fun k hk => (hO.out.lt k hk).1)
              clear hown' hgrow hO hB HJ cx0 cx1 cx2 y0 y1 y2
              go_wp2
              go_roundw
              case rel => exact ⟨k + 1, by go_num, by omega, hO2, hB2⟩
              case measure => simp [intOf]; omega
          · have t1 : (x.2.2.toList == []) = true := ba_eq e1
            have t2 : (y.2.2.toList == []) = false := ba_ne e2
            have HM : Hid (¬ touches y x) := fun h => e2 h.2.1
            clear e1 e2
            go_wp2_with fail
            go_quiet (fail)
            go_wp2_with (at_builtin; refine wpList_append_own _ rfl _ _ 39 rfl w.heap.size 42 i0 _ 3 32 Try.underlying39 hi hz0 hz1 hz2 rfl (by decide) _ _ _ rfl ((hO.out.alloc (.cells #[.int .i64 x.1, .int .i64 x.2.1, .string x.2.2] 42)).drew.alloc (.cells #[.int .i64 x.1, .int .i64 x.2.1, .string x.2.2] 42)) ⟨wr.heap.size + 1, 0, none⟩ 1 1 [.int .i64 x.1, .int .i64 x.2.1, .string x.2.2] ?c0 rfl ?c1 ?c2 ?c3 ?c4 ?c5 ?_)
            case c0 => rfl
            case c1 => exact newEd_cells2 wr x _ _
            case c2 => exact newEd_one x
            case c3 => first | (unfold maxLen; omega) | (simp at hlen ⊢; unfold maxLen; omega)
            case c4 => first | omega | (simp at hlen ⊢; omega)
            case c5 => have := hB.out.size; show _ ≤ (((wr.alloc _).drewN _).alloc _).heap.size; rw [two_size]; omega
            intro v' w1 hown' hgrow _
            have hO2 : Hid (OwnEd w.heap.size v' (joinA (d.take (k + 1))) w1) := by
              show OwnEd _ _ _ _
              rw [HJ.out, joinStep_miss _ _ _ HM.out]
              simpa [OwnEd, encEd] using hown'
            have hB2 : Hid (Below w.heap.size w w1) := by
              refine Below.grown ((below_drewN (hB.out.alloc hB.out.size _) _).alloc (by have := hB.out.size; show _ ≤ ((wr.alloc _).drewN _).heap.size; rw [one_size]; omega) _) hgrow (by rw [two_size]; have := hB.out.size; omega) (fun k hk => (hO.out.lt k hk).1)
            clear hown' hgrow hO hB HJ cx0 cx1 cx2 y0 y1 y2
            go_wp2
            go_roundw
            case rel => exact ⟨k + 1, by go_num, by omega, hO2, hB2⟩
            case measure => simp [intOf]; omega
        · have t1 : (x.2.2.toList == []) = false := ba_ne e1
          have HM : Hid (¬ touches y x) := fun h => e1 h.1
          clear e1
          go_wp2_with fail
          go_quiet (fail)
          go_wp2_with (at_builtin; refine wpList_append_own _ rfl _ _ 39 rfl w.heap.size 42 i0 _ 3 32 Try.underlying39 hi hz0 hz1 hz2 rfl (by decide) _ _ _ rfl ((hO.out.alloc (.cells #[.int .i64 x.1, .int .i64 x.2.1, .string x.2.2] 42)).drew.alloc (.cells #[.int .i64 x.1, .int .i64 x.2.1, .string x.2.2] 42)) ⟨wr.heap.size + 1, 0, none⟩ 1 1 [.int .i64 x.1, .int .i64 x.2.1, .string x.2.2] ?c0 rfl ?c1 ?c2 ?c3 ?c4 ?c5 ?_)
          case c0 => rfl
          case c1 => exact newEd_cells2 wr x _ _
          case c2 => exact newEd_one x
          case c3 => first | (unfold maxLen; omega) | (simp at hlen ⊢; unfold maxLen; omega)
          case c4 => first | omega | (simp at hlen ⊢; omega)
          case c5 => have := hB.out.size; show _ ≤ (((wr.alloc _).drewN _).alloc _).heap.size; rw [two_size]; omega
          intro v' w1 hown' hgrow _
          have hO2 : Hid (OwnEd w.heap.size v' (joinA (d.take (k + 1))) w1) := by
            show OwnEd _ _ _ _
            rw [HJ.out, joinStep_miss _ _ _ HM.out]
            simpa [OwnEd, encEd] using hown'
          have hB2 : Hid (Below w.heap.size w w1) := by
            refine Below.grown ((below_drewN (hB.out.alloc hB.out.size _) _).alloc (by have := hB.out.size; show _ ≤ ((wr.alloc _).drewN _).heap.size; rw [one_size]; omega) _) hgrow (by rw [two_size]; have := hB.out.size; omega) (fun k hk => (hO.out.lt k hk).1)
          clear hown' hgrow hO hB HJ cx0 cx1 cx2 y0 y1 y2
          go_wp2
          go_roundw
          case rel => exact ⟨k + 1, by go_num, by omega, hO2, hB2⟩
          case measure => simp [intOf]; omega
    · obtain rfl : k = d.length := by omega
      rw [List.take_length] at hO
      obtain ⟨ao, n, c, rfl⟩ : ∃ ao n c, u3 = .slice ao n c := by
        rcases hO.out.shape with ⟨h, _⟩ | ⟨g, c, h, _⟩
        · exact ⟨_, _, _, h⟩
        · exact ⟨_, _, _, h⟩
      go_wp2
      go_ret
      exact ⟨hB.out, _, rfl, hO.out⟩

end Go.Proofs.Ytmlkeddiagmedaa
