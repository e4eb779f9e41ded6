import Derived.Deep.AppendLies
import Derived.Deep.RegionLaw
import Derived.Test.YtegmoeeeomjkgaaDoorRefE
import Derived.Test.YtegmoeeeomjkgaaDoorJm
namespace Go.Proofs.YtegmoeeeomjkgaaDoor
open Go Go.RowKit

/-- What an append of ranges leaves: nothing else has turned. -/
theorem own_finR {w w1 w' : World} {n₀ : Nat} {v : Value} {n : Nat} {xs : List Value} (hown : w1.ownsRow n₀ 26 2 v n xs) (hk : Lib.OthersKept 26 none w w1) (hB : Below n₀ w w1) (hn : n₀ ≤ w.heap.size) (hg : w1.grownBy w' v.ownBlock) :
    Lib.OthersKept 26 none w w' ∧ Below n₀ w w' := by
  refine ⟨hk.grown hg (fun g e => Lib.ownsRow_kind hown g e), hB.grown hg (Nat.le_trans hn hB.size) fun j ej => ?_⟩
  rcases hown.2 with ⟨rfl, _⟩ | ⟨g, cap, cur, rfl, hb, _⟩
  · cases ej
  · obtain rfl : g = j := by simpa [Value.ownBlock] using ej
    exact hb
theorem own_othersR {W W' : World} {n₀ size n : Nat} {e : TypeId} {v : Value} {xs : List Value} (h : W.ownsRow n₀ e size v n xs) (he : e ≠ 26) (hk : Lib.OthersKept 26 none W W') : W'.ownsRow n₀ e size v n xs := by
  refine ⟨h.1, ?_⟩
  rcases h.2 with h1 | ⟨g, cap, cur, h1, h2, h3, h4⟩
  · exact .inl h1
  · exact .inr ⟨g, cap, cur, h1, h2, hk g _ h3 (by simp) (fun c fz e' => by cases e'; exact he rfl), h4⟩

theorem owned_rowY {w : World} {n₀ : Nat} {v : Value} {l : List Nat} (h : w.ownsRow n₀ 5 1 v l.length (l.map byteV)) : ∃ a cap, v = .slice a l.length cap ∧ RowY w a l := by
  rcases h.2 with ⟨rfl, h0⟩ | ⟨g, cap, cur, rfl, _⟩
  · have : l = [] := List.length_eq_zero_iff.1 h0
    subst this
    exact ⟨none, 0, rfl, fun i x hx => by simp at hx⟩
  · refine ⟨_, cap, rfl, fun i x hx => ?_⟩
    have hi := (List.getElem?_eq_some_iff.1 hx).1
    refine ⟨g, 0, rfl, ?_⟩
    rw [Nat.zero_add, h.cellAt i (by omega), List.getElem?_map, hx]
    rfl

set_option maxRecDepth 100000 in
set_option maxHeartbeats 8000000 in
theorem rranges_any (s : BS) (w : World) :
    Calls Tryd.prog 24 #[vset s] w fun e W' => ∃ v, e = .returned v ∧ W'.ownsRow w.heap.size 26 2 v (rngs (bytesL s)).length (cellsR (rngs (bytesL s))) ∧ Below w.heap.size w W' := by
  obtain ⟨iR, hiR, hzR0, hzR1, hzR2⟩ := info_parts Tryd.info26
  have HBy := fun w' => Lib.hid (rbytes_any s w')
  have hlenL := length_bytesL s
  have HSm : Hid (∀ x ∈ bytesL s, x < 256) := fun x hx => ((mem_bytesL s x).1 hx).1
  have HGe : Hid (∀ k x, (bytesL s)[k]? = some x → k ≤ x) := bytesL_ge s
  generalize bytesL s = L at HBy hlenL HSm HGe ⊢
  unfold vset at HBy ⊢
  go_enter Tryd.func24, Tryd.ntmps24
  go_wp2_with fail
  refine (HBy _).out.mono ?_
  rintro e w1 ⟨v, rfl, hown1, hB1⟩
  obtain ⟨al, cl, rfl, _⟩ := owned_rowY hown1
  have hOL := Lib.hid hown1
  have hB0 := Lib.hid (((Below.refl _ w).alloc (Nat.le_refl _) (.cells (cset s) 29)).trans (hB1.mono (by simp)))
  clear hown1 hB1 HBy
  have hsz0 : w.heap.size ≤ w1.heap.size := hB0.out.size
  have hOL2 : Hid (w1.ownsRow w.heap.size 5 1 (.slice al L.length cl) L.length (L.map byteV)) := by
    refine Lib.hid ⟨hOL.out.1, ?_⟩
    rcases hOL.out.2 with h1 | ⟨g, cap, cur, h1, h2, h3⟩
    · exact .inl h1
    · exact .inr ⟨g, cap, cur, h1, by simp at h2; omega, h3⟩
  clear hOL
  go_wp2
  go_loopw [3, 5] (fun q i wr => ∃ (k : Nat), i = .int .i64 k ∧ k ≤ L.length ∧ Hid (wr.ownsRow w.heap.size 26 2 q (rngs (L.take k)).length (cellsR (rngs (L.take k)))) ∧ Hid (wr.ownsRow w.heap.size 5 1 (.slice al L.length cl) L.length (L.map byteV)) ∧ Hid (Below w.heap.size w wr))
    (fun _ i _ => L.length - (intOf i).toNat)
  case atStart => exact ⟨0, rfl, Nat.zero_le _, World.ownsRow_nil _ _ _ _, hOL2, hB0⟩
  case round =>
    clear hOL2 hB0
    obtain ⟨k, rfl, hk, hO, hL, hB⟩ := hrel
    by_cases hlt : k < L.length
    · have HX : Hid (L[k]? = some L[k]) := Lib.hid (List.getElem?_eq_getElem hlt)
      have hx256 := HSm.out L[k] (List.getElem_mem hlt)
      have hge := HGe.out k L[k] (List.getElem?_eq_getElem hlt)
      obtain ⟨x, hx⟩ : ∃ x, L[k] = x := ⟨_, rfl⟩
      rw [hx] at HX hx256 hge
      have HRS : Hid (rngs (L.take (k + 1)) = rstep (rngs (L.take k)) x) := by
        refine Lib.hid ?_
        rw [List.take_add_one, HX.out]; exact rngs_snoc _ _
      clear hx
      have hlenP : (rngs (L.take k)).length ≤ 256 := by
        have h1 := rngs_length (L.take k)
        rw [List.length_take] at h1
        omega
      have hsm : SmallR (rngs (L.take k)) := rngs_small _ (fun y hy => HSm.out y (List.mem_of_mem_take hy))
      have hpos : ∀ rs r, rngs (L.take k) = rs ++ [r] → 0 < k := fun rs r h => rngs_take_nil L k rs r h
      obtain ⟨rs, hrs⟩ : ∃ rs, rs = rngs (L.take k) := ⟨_, rfl⟩
      rw [← hrs] at hO HRS hlenP hsm hpos
      clear hrs
      obtain ⟨al', cl', hsl, hrow⟩ := owned_rowY hL.out
      obtain ⟨b, off, hab, e0⟩ := hrow k _ HX.out
      cases hsl
      subst hab
      have r0 : wr.cell? ⟨b, off + k, none⟩ = some (.int .u8 x) := e0
      obtain ⟨aq, cq, rfl, _⟩ := owned_rowR hO.out
      have hszr : w.heap.size ≤ wr.heap.size := hB.out.size
      rcases List.eq_nil_or_concat rs with rfl | ⟨rs', r, hcat⟩
      · have HS : Hid (rngs (L.take (k + 1)) = [(x, x)]) := Lib.hid (HRS.out.trans rfl)
        clear HRS hpos hrow
        simp only [List.length_nil]
        go_wp2_with fail
        go_region
        go_wp2_with fail
        go_region_law (first | (refine step_append_lies _ (by rfl) _ _ _ (by rfl) w.heap.size 26 iR _ 2 2 Tryd.underlying22 hiR hzR0 hzR1 hzR2 rfl (by decide) _ _ _ (by rfl) (hO.out.alloc (.cells #[.int .u8 x, .int .u8 x] 26)) ⟨wr.heap.size, 0, none⟩ 1 1 [.int .u8 x, .int .u8 x] (by rfl) (by rfl) (World.news_of_block (cs := #[.int .u8 x, .int .u8 x]) (Blk.new wr 26 _)) (by simp [Value.oneCell']) (by omega) (by unfold maxLen; simp) (by simp) (by simp; omega) _ rfl ?_; intro g cap w1 hown1 hgrow _ _))
        all_goals
          have hf := own_finR (w := wr) (w1 := (wr.alloc (.cells #[.int .u8 x, .int .u8 x] 26)).drew.drew) (hO.out.alloc _) ((Lib.OthersKept.refl 26 none wr).alloc _).drew.drew ((Below.refl w.heap.size wr).alloc hszr _).drew.drew hszr hgrow
          have hL2 := Lib.hid (own_othersR hL.out (by decide) hf.1)
          have hB2 := Lib.hid (hB.out.trans hf.2)
          have hO2 := Lib.hid hown1
          clear hown1 hgrow hf hL hB hO e0 r0
          go_wp2
          go_roundw
          case rel => exact ⟨k + 1, by go_num, by omega, by rw [HS.out]; exact hO2, hL2, hB2⟩
          case measure => simp [intOf]; omega
      · rw [List.concat_eq_append] at hcat
        subst hcat
        obtain ⟨f, t⟩ := r
        have hk0 : 0 < k := hpos rs' (f, t) rfl
        have ht : t < 256 := (hsm (f, t) (by simp)).2
        have HS : Hid (rngs (L.take (k + 1)) = if t + 1 = x then rs' ++ [(f, x)] else rs' ++ [(f, t)] ++ [(x, x)]) := by
          refine Lib.hid (HRS.out.trans ?_)
          exact rstep_other rs' (f, t) x ht hx256 (by omega)
        have hrl : (rs' ++ [(f, t)]).length = rs'.length + 1 := by simp
        rw [hrl] at hO hlenP ⊢
        obtain ⟨g, cap, hsl⟩ := ownsRow_succ hO.out
        cases hsl
        have hc : wr.cell? ⟨g, rs'.length * 2 + 1, none⟩ = some (.int .u8 t) := (hO.out.cellAt (rs'.length * 2 + 1) (by omega)).trans (cellsR_last rs' (f, t))
        clear HRS hpos hsm
        have hw1 : IntKind.i64.wrap (t : Int) = (t : Int) := IntWalk.i64_in _ (by omega)
        have hw2 : IntKind.i64.wrap ((t : Int) + 1) = (t : Int) + 1 := IntWalk.i64_in _ (by omega)
        have hw3 : IntKind.i64.wrap (x : Int) = (x : Int) := IntWalk.i64_in _ (by omega)
        by_cases heq : t + 1 = x
        · have he1 : ((t : Int) + 1 == (x : Int)) = true := by simp; omega
          go_wp2_with fail
          go_region
          have hfg := hO.out.frozenAt (rs'.length * 2 + 1)
          rw [if_pos heq] at HS
          obtain ⟨hst, hgr⟩ := hO.out.stored (rs'.length * 2 + 1) (.int .u8 x)
          have hf := own_finR (w := wr) (w1 := wr) hO.out (Lib.OthersKept.refl 26 none wr) (Below.refl _ wr) hszr hgr
          have hL2 := Lib.hid (own_othersR hL.out (by decide) hf.1)
          have hB2 := Lib.hid (hB.out.trans hf.2)
          have hO2 := Lib.hid hst
          have hkk : (rs' ++ [(f, x)]).length = rs'.length + 1 := by simp
          have HKK := Lib.hid hkk
          clear hst hgr hf hL hB hkk hO e0
          go_wp2
          go_roundw
          case rel =>
            refine ⟨k + 1, by go_num, by omega, ?_, hL2, Lib.hid hB2.out.drew⟩
            rw [HS.out, HKK.out]
            have h := hO2.out
            rw [cellsR_set rs' (f, t) x] at h
            exact h
          case measure => simp [intOf]; omega
        · have he1 : ((t : Int) + 1 == (x : Int)) = false := by simp; omega
          go_wp2_with fail
          go_region
          rw [if_neg heq] at HS
          have hkk : (rs' ++ [(f, t)] ++ [(x, x)]).length = rs'.length + 1 + 1 := by simp
          have HKK := Lib.hid hkk
          clear hkk
          go_wp2_with fail
          go_region_law (first | (refine step_append_lies _ (by rfl) _ _ _ (by rfl) w.heap.size 26 iR _ 2 2 Tryd.underlying22 hiR hzR0 hzR1 hzR2 rfl (by decide) _ _ _ (by rfl) (hO.out.alloc (.cells #[.int .u8 x, .int .u8 x] 26)) ⟨wr.heap.size, 0, none⟩ 1 1 [.int .u8 x, .int .u8 x] (by rfl) (by rfl) (World.news_of_block (cs := #[.int .u8 x, .int .u8 x]) (Blk.new wr 26 _)) (by simp [Value.oneCell']) (by omega) (by unfold maxLen; omega) (by omega) (by simp; omega) _ rfl ?_; intro g2 cap2 w1 hown1 hgrow _ _))
          all_goals
            have hf := own_finR (w := wr) (w1 := (wr.alloc (.cells #[.int .u8 x, .int .u8 x] 26)).drew.drew) (hO.out.alloc _) ((Lib.OthersKept.refl 26 none wr).alloc _).drew.drew ((Below.refl w.heap.size wr).alloc hszr _).drew.drew hszr hgrow
            have hL2 := Lib.hid (own_othersR hL.out (by decide) hf.1)
            have hB2 := Lib.hid (hB.out.trans hf.2)
            have hO2 := Lib.hid hown1
            clear hown1 hgrow hf hL hB hO e0 r0 hc
            go_wp2
            go_roundw
            case rel =>
              refine ⟨k + 1, by go_num, by omega, ?_, hL2, hB2⟩
              rw [HS.out, HKK.out, cellsR_snoc]
              exact hO2.out
            case measure => simp [intOf]; omega
    · obtain rfl : k = L.length := by omega
      rw [List.take_length] at hO
      go_wp2
      go_ret
      exact ⟨u3, rfl, hO.out, hB.out⟩
end Go.Proofs.YtegmoeeeomjkgaaDoor
