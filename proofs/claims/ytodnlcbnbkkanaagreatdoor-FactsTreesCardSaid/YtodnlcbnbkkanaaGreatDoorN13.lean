import Derived.Deep.CutRange
import Derived.Deep.DeepCutAuto
import Derived.IntWalk
import Derived.Test.YtodnlcbnbkkanaaGreatDoorN2
import Derived.Test.YtodnlcbnbkkanaaGreatDoorN5
import Derived.Test.YtodnlcbnbkkanaaGreatDoorN9
import Derived.Test.YtodnlcbnbkkanaaGreatDoorN12
section
namespace Go.Vals
open Go

section
variable {P : Program} {ops : Array Oper} {Q : Exit → Act → World → Prop}

theorem wp_region_vals_sink {id : Nat} {a : Act} {w : World} {S : World → Prop} {N : World → World → Prop} (n : Nat) (vs : List Value) (F : Array Value)
    (hm : P.follows .mixedOrders = true) (hck : ck .any ops [] = true) (hb : below ops a.tmps.size = true)
    (hF : putL a.tmps (ops.toList.map (·.dst)) vs = F)
    (hsz : ops.size = n + 1) (hsink : Region.sinkB .any ops n = true) (hN : ∀ w, N w w) (hNS : ∀ w w', S w → N w w' → S w') (h0 : S w.drew)
    (hall : Each P ops N (Kn F [] fun _ _ _ => False) S a.defers (ops.toList.take n))
    (hlast : ∀ W, S W → ∃ o, ops[n]? = some o ∧ noSel o = true ∧ Region.wanted o (yielded ops F) = true ∧ o.dst = none ∧ ∃ W', (execOp (Act.eval ⟨F, a.defers⟩) o).run P W = .ok .skip W' ∧ Q .normal { a with tmps := F } W') :
    (Code.region id ops true).wp P Q a w := by
  obtain ⟨hsel, hlt, hone, hlook⟩ := ck_spec hck
  have hFs : F.size = a.tmps.size := by rw [← hF, putL_size]
  have hin := below_spec hb
  have hch : Region.chainB .any ops n = true := by
    unfold Region.chainB
    rw [List.all_eq_true]
    intro t ht
    have := List.mem_range.1 ht
    simp only [Bool.or_eq_true, decide_eq_true_eq]
    left; omega
  have key : ∀ (fuel : Nat) (listed : Array Bool) (b : Act) (W : World), listed.size = ops.size → left ops listed ≤ fuel → b.tmps.size = a.tmps.size → b.defers = a.defers →
      (∀ t < a.tmps.size, Settled ops listed t → b.tmps[t]? = F[t]?) →
      ((S W ∧ HeadInv .any ops n listed ∧ listed.getD n true = false) ∨ (Q .normal { a with tmps := F } W ∧ ∀ j, j < ops.size → listed.getD j true = true)) →
      wpAny P .any ops Q fuel listed b W := by
    intro fuel
    have fin : ∀ (listed : Array Bool) (b : Act) (W : World), listed.size = ops.size → b.tmps.size = a.tmps.size → b.defers = a.defers →
        (∀ t < a.tmps.size, Settled ops listed t → b.tmps[t]? = F[t]?) →
        ((S W ∧ HeadInv .any ops n listed ∧ listed.getD n true = false) ∨ (Q .normal { a with tmps := F } W ∧ ∀ j, j < ops.size → listed.getD j true = true)) →
        Region.ready .any ops listed = [] → Q .normal b W := by
      intro listed b W hls hbs hbd hk hst hr
      have hl := listed_all hlt hls hr
      have hT : b.tmps = F := by
        apply Array.ext (by rw [hbs, hFs])
        intro i h1 h2
        have := hk i (by omega) fun j o ho _ => hl j o ho
        simpa [h1, h2] using this
      rcases hst with ⟨_, _, hun⟩ | ⟨hQ, _⟩
      · exfalso
        have h1 : n < ops.size := by omega
        have h2 := hl n ops[n] (by simp [h1])
        have h3 : n < listed.size := by omega
        simp [h3] at hun h2
        rw [hun] at h2; cases h2
      · obtain ⟨bt, bd⟩ := b
        dsimp only at hT hbd
        rw [hT, hbd]
        exact hQ
    induction fuel with
    | zero =>
      intro listed b W hls hleft hbs hbd hk hst
      have hr : Region.ready .any ops listed = [] := by
        rw [List.eq_nil_iff_forall_not_mem]
        intro j hj
        obtain ⟨h0, o, ho, _⟩ := mem_ready.1 hj
        have hlt' : j < ops.size := (Array.getElem?_eq_some_iff.1 ho).1
        have : 0 < left ops listed := List.countP_pos_iff.2 ⟨j, by simpa using hlt', by simp [h0]⟩
        omega
      exact ⟨hr, fin listed b W hls hbs hbd hk hst hr⟩
    | succ fuel ih =>
      intro listed b W hls hleft hbs hbd hk hst
      refine ⟨fun hr => fin listed b W hls hbs hbd hk hst hr, fun i hi => ?_⟩
      obtain ⟨hun, o, ho, hdep⟩ := mem_ready.1 hi
      have hilt : i < ops.size := (Array.getElem?_eq_some_iff.1 ho).1
      rcases hst with ⟨hS, inv, hnun⟩ | ⟨_, hall'⟩
      rotate_left
      · rw [hall' i hilt] at hun; cases hun
      have hlook' : ∀ t ∈ o.looksAt ops, b.tmps[t]? = F[t]? := by
        intro t ht
        refine hk t ((hin i o ho).2 t ht) fun j x hx hxd => ?_
        obtain ⟨e, he, hb', rfl⟩ := hlook i o j x t ho hx hxd ht
        have h1 := hdep e he hb'
        have hj : e.on < ops.size := (Array.getElem?_eq_some_iff.1 hx).1
        have hj' : e.on < listed.size := by omega
        simpa [hj'] using h1
      have hknow : Knows (Kn F [] fun _ _ _ => False) (o.looksAt ops) b W := by
        intro t ht
        have ht' := (hin i o ho).2 t ht
        refine ⟨b.tmps[t]'(by rw [hbs]; exact ht'), Array.getElem?_eq_getElem _, .inr ⟨by simp, ?_⟩⟩
        rw [← hlook' t ht]; exact Array.getElem?_eq_getElem _
      have hleft' : left ops (listed.setIfInBounds i true) ≤ fuel := by
        have : left ops (listed.setIfInBounds i true) < left ops listed := by
          refine countP_lt (x := i) (fun j _ hj => ?_) (by simpa using hilt) (by simp [hun]) (by simp [hls, hilt])
          by_cases hij : i = j
          · subst hij; simp [hls, hilt] at hj
          · rw [getD_set_ne true hij] at hj; exact hj
        omega
      have hslots : ∀ u, (∀ d, o.dst = some d → F[d]? = some u) → ∀ t < a.tmps.size, Settled ops (listed.setIfInBounds i true) t → (b.put o.dst u).tmps[t]? = F[t]? := by
        intro u hu t ht hset
        by_cases hdt : o.dst = some t
        · rw [hu t hdt]
          have : t < b.tmps.size := by omega
          simp [Act.put, hdt, this]
        · have hset' : Settled ops listed t := by
            intro j x hx hxd
            by_cases hij : i = j
            · subst hij; rw [ho] at hx; cases hx; exact absurd hxd hdt
            · rw [← getD_set_ne true hij]; exact hset j x hx hxd
          rw [← hk t ht hset']
          cases hod : o.dst with
          | none => simp [Act.put]
          | some d =>
            have : d ≠ t := fun e => hdt (by rw [hod, e])
            simp only [Act.put]
            rw [Array.getElem?_setIfInBounds_ne this]
      have hsize : ∀ u, (b.put o.dst u).tmps.size = a.tmps.size := fun u => by unfold Act.put; split <;> simp [hbs]
      have hdef : ∀ u, (b.put o.dst u).defers = a.defers := fun u => by unfold Act.put; split <;> exact hbd
      by_cases hin' : i = n
      · subst hin'
        obtain ⟨o', ho', hns, hwant, hdst, W', hrun, hQ⟩ := hlast W hS
        rw [ho] at ho'
        cases ho'
        have he : execOp b.eval o = execOp (Act.eval ⟨F, a.defers⟩) o := by
          refine execOp_congr o (noSel_spec hns) fun x hx => ?_
          cases x with
          | tmp t =>
            have ht : t ∈ o.looksAt ops := List.mem_append_left _ (List.mem_filterMap.2 ⟨.tmp t, by simpa using hx, rfl⟩)
            have := hlook' t ht
            simp [Act.eval, this]
          | _ => rfl
        have hw : Region.wanted o (yielded ops b.tmps) = true := by
          rw [← hwant]
          unfold Region.wanted
          cases hg : o.guard with
          | none => rfl
          | some gw =>
            obtain ⟨g, want⟩ := gw
            have hy : yielded ops b.tmps g = yielded ops F g := by
              unfold yielded
              cases ht : (ops[g]?).bind (·.dst) with
              | none => rfl
              | some t =>
                have := hlook' t (by simp [Oper.looksAt, hg, ht])
                simp [this]
            simp only [hy]
        have hnext : wpAny P .any ops Q fuel (listed.setIfInBounds i true) (b.put o.dst undef) W' := by
          refine ih _ _ _ (by simpa using hls) hleft' (hsize _) (hdef _) (hslots _ fun d hd => (by rw [hdst] at hd; cases hd)) (.inr ⟨hQ, fun j hj => ?_⟩)
          by_cases hji : i = j
          · subst hji; simp [hls, hilt]
          · rw [getD_set_ne true hji]
            cases hlj : listed.getD j true with
            | true => rfl
            | false => exact absurd hi (tail_waits hsink hch hilt inv _ j rfl (by omega) hlj i (Nat.le_refl _))
        unfold wpOp
        simp only [ho, hw, if_true]
        refine .inl ?_
        unfold Oper.wp
        rw [he, hrun, Oper.upon_skip]
        exact hnext
      · have hil : i < n := by omega
        have hdo := hall.get i o (by rw [List.getElem?_take, if_pos hil]; simpa using ho) b W hbd hS hknow
        refine hdo.wpOp ho (hN W) fun u w' hw' hp => ?_
        refine ih _ _ _ (by simpa using hls) hleft' (hsize u) (hdef u) (hslots u fun d hd => ?_) (.inl ⟨hNS _ _ hS hw', inv.set hi hil, ?_⟩)
        · rcases hp d hd with ⟨h, _⟩ | ⟨_, h⟩
          · cases h
          · exact h
        · rw [getD_set_ne true hin']; exact hnun
  refine wp_region_any hm (key ops.size _ a _ (by simp) left_start rfl rfl (fun t ht hset => ?_) (.inl ⟨h0, ⟨by simp, fun j oj _ hl => (by rw [getD_replicate_false] at hl; cases hl), fun t _ ht => getD_in (by simpa using ht) (getD_replicate_false _ _)⟩, ?_⟩))
  · have hnd : some t ∉ ops.toList.map (·.dst) := by
      intro hm
      obtain ⟨o, ho, hod⟩ := List.mem_map.1 hm
      obtain ⟨j, hj⟩ := List.mem_iff_getElem?.1 ho
      have hj' : ops[j]? = some o := by simpa using hj
      have h5 := hset j o hj' hod
      have hlt : j < ops.size := (Array.getElem?_eq_some_iff.1 hj').1
      simp [hlt] at h5
    rw [← hF, putL_off _ _ _ hnd]
  · have : n < ops.size := by omega
    simp [this]
end
end Go.Vals
end
section
namespace Go.Proofs.YtodnlcbnbkkanaaGreatDoor
open Go Go.RowKit

set_option maxHeartbeats 400000 in
theorem has39_any (s : BS) (b : Nat) (hb : b < 256) (w : World) : Calls Tryz.prog 39 #[vset s, .int .u8 b] w fun e w' => e = .returned (.bool (s.getLsbD b)) ∧ Below w.heap.size w w' := by
  have hr := bit2_I s b hb
  rw [← hr]; clear hr
  unfold vset
  have hc := cells_at s (b / 64) (by omega)
  go_enter Tryz.func39, Tryz.ntmps39
  go_wp2
  go_ret
  exact ⟨rfl, (Below.refl _ _).alloc (Nat.le_refl _) _⟩

structure TD where
  g : GramM
  (T Bf Bo Bl Bn Be Bs cf co ce cs : Nat)
  (csF csO csE : Array Value)
  (F FO : List BS)
  (L N E : List Bool)
  S : List Int
def TD.cells (D : TD) : Array Value := #[.slice D.g.sa D.g.sorts.length D.g.sc, .slice D.g.pa D.g.prods.length D.g.pc, .int .i64 D.g.start, .slice D.g.fa D.g.forbid.length D.g.fc, .slice D.g.wa D.g.follow.length D.g.wc, .slice (some ⟨D.Bf, 0, none⟩) D.g.sorts.length D.cf, .slice (some ⟨D.Bo, 0, none⟩) D.g.sorts.length D.co, .slice (some ⟨D.Bl, 0, none⟩) D.g.sorts.length D.g.sorts.length, .slice (some ⟨D.Bn, 0, none⟩) D.g.sorts.length D.g.sorts.length, .slice (some ⟨D.Be, 0, none⟩) D.g.sorts.length D.ce, .slice (some ⟨D.Bs, 0, none⟩) D.g.sorts.length D.cs, .bool true]
structure TW (D : TD) (w0 W : World) : Prop where
  t : Blk W D.T 75 D.cells
  f : Blk W D.Bf 47 D.csF
  fo : Blk W D.Bo 47 D.csO
  l : Blk W D.Bl 4 (bools D.L)
  n : Blk W D.Bn 4 (bools D.N)
  e : Blk W D.Be 4 D.csE
  s : RowInt W (some ⟨D.Bs, 0, none⟩) D.S
  b : Below w0.heap.size w0 W
  hi : w0.heap.size ≤ D.T
  hs : D.Bs ≠ D.T
theorem row_kept {W V : World} {B T : Nat} {S : List Int} (h : RowInt W (some ⟨B, 0, none⟩) S) (hg : W.grownBy V (some T)) (hne : B ≠ T) : RowInt V (some ⟨B, 0, none⟩) S := fun i x hx => by
  obtain ⟨b, o, e, hb, hc, ht⟩ := h i x hx
  cases e
  exact ⟨B, 0, rfl, Nat.lt_of_lt_of_le hb hg.size, fun j v hj => hg.cell (hc j v hj) (by simpa using hne), ht⟩
theorem TW.kept {D : TD} {w0 W V : World} (h : TW D w0 W) (hg : W.grownBy V (some D.T)) (ht : Blk V D.T 75 D.cells) : TW D w0 V :=
  ⟨ht, h.f.kept hg (by simpa using blk_ne h.f h.t (by decide)), h.fo.kept hg (by simpa using blk_ne h.fo h.t (by decide)), h.l.kept hg (by simpa using blk_ne h.l h.t (by decide)), h.n.kept hg (by simpa using blk_ne h.n h.t (by decide)), h.e.kept hg (by simpa using blk_ne h.e h.t (by decide)), row_kept h.s hg h.hs, h.b.grown hg h.b.size (fun k e => by cases e; exact h.hi), h.hi, h.hs⟩
theorem TW.below {D : TD} {w0 W V : World} (h : TW D w0 W) (hB : Below W.heap.size W V) : TW D w0 V := h.kept (grown_below hB _) (h.t.below hB h.t.lt)
def GoesPost (D : TD) (r : Nat) (w : World) (e : Ending) (w' : World) : Prop := e = .returned (.int .i64 (r : Int)) ∧ w.grownBy w' (some D.T) ∧ Blk w' D.T 75 D.cells

set_option maxRecDepth 100000 in
set_option maxHeartbeats 8000000 in
theorem goes_leaf (D : TD) (w0 : World) (tx : ByteArray) (hsz : tx.size ≤ 1048576) (d : Nat) (p b : Int) (ka : Option Addr) (kc : Nat) (kids : List TreeM) (hp : p < 0) (at_ : Nat) (hat : at_ ≤ 1048576) (whole : Bool) (w : World) (hw : TW D w0 w) :
    Calls Tryz.prog 37 #[.pointer (some ⟨D.T, 0, none⟩), treeV (.node p b ka kc kids), .int .i64 at_, .string tx, .bool whole] w (GoesPost D (at_ + (yieldL (d + 1) (.node p b ka kc kids)).length) w) := by
  have HY : Hid (yieldL (d + 1) (.node p b ka kc kids) = [b]) := Lib.hid (by rw [yieldL, if_pos hp])
  rw [HY.out]
  have hB : Below w.heap.size w (w.alloc (.cells #[.int .i64 p, .int .u8 b, .slice ka kids.length kc] 70)) := (Below.refl _ _).alloc (Nat.le_refl _) _
  have HZ : Hid (GoesPost D (at_ + [b].length) w (.returned (.int .i64 ((at_ : Int) + 1))) (w.alloc (.cells #[.int .i64 p, .int .u8 b, .slice ka kids.length kc] 70))) := Lib.hid ⟨by simp, grown_below hB _, hw.t.below hB hw.t.lt⟩
  clear hB hw
  unfold treeV treeC
  go_enter Tryz.func37, Tryz.ntmps37
  go_wp2
  go_ret
  exact HZ.out
end Go.Proofs.YtodnlcbnbkkanaaGreatDoor
end
