import Derived.StillTail
import Derived.Lib.Builder
import Derived.Lib.UnsafeStr
import Derived.Lib.AppendStr
import Derived.RegionTactic
import Derived.BigRegion
import Derived.Lib.Bytealg
import Derived.LaidEqlPtr
import Derived.Test.YtodnlcbnbkkanaaGreatDoorS1
import Derived.Test.YtodnlcbnbkkanaaGreatDoorS2
import Derived.Test.YtodnlcbnbkkanaaGreatDoorS3
import Derived.Test.YtodnlcbnbkkanaaGreatDoorS6
section
namespace Go.Vals
open Go

section
variable {P : Program} {ops : Array Oper} {Q : Exit → Act → World → Prop} {md : Region.Mode}

def Turns (P : Program) (ops : Array Oper) (F : Array Value) (ds : List Deferred) (o : Oper) (w w' : World) : Prop :=
 noSel o = true ∧ Region.wanted o (yielded ops F) = true ∧ ∃ v, ((execOp (Act.eval ⟨F, ds⟩) o).run P w = .ok (.value v) w' ∨ (execOp (Act.eval ⟨F, ds⟩) o).run P w = .ok .skip w' ∧ v = undef) ∧ ∀ d, o.dst = some d → F[d]? = some v
def SpecAll (P : Program) (ops : Array Oper) (F : Array Value) (ds : List Deferred) (Ws : Nat → World) : Nat → List Nat → Prop
 | _, [] => True
 | k, i :: r => (∃ o, ops[i]? = some o ∧ Turns P ops F ds o (Ws k) (Ws (k + 1))) ∧ SpecAll P ops F ds Ws (k + 1) r
theorem SpecAll.get {F : Array Value} {ds : List Deferred} {Ws : Nat → World} : ∀ {l : List Nat} {k : Nat}, SpecAll P ops F ds Ws k l → ∀ (j i : Nat), l[j]? = some i → ∃ o, ops[i]? = some o ∧ Turns P ops F ds o (Ws (k + j)) (Ws (k + j + 1))
 | [], _, _, j, i, h => by simp at h
 | x :: l, k, hE, 0, i, h => by simp at h; subst h; exact hE.1
 | x :: l, k, hE, j + 1, i, h => by
  have := hE.2.get j i (by simpa using h)
  rw [show k + 1 + j = k + (j + 1) by omega] at this
  exact this
def EachS (P : Program) (ops : Array Oper) (F : Array Value) (S : World → Prop) (ds : List Deferred) (sp : List Nat) : Nat → List Oper → Prop
 | _, [] => True
 | k, o :: l => (sp.contains k = true ∨ ∀ a w, a.defers = ds → S w → Knows (Kn F [] fun _ _ _ => False) (o.looksAt ops) a w → Does P ops (fun w w' => w' = w) (Kn F [] fun _ _ _ => False) o a w) ∧ EachS P ops F S ds sp (k + 1) l
theorem EachS.get {F : Array Value} {S : World → Prop} {ds : List Deferred} {sp : List Nat} : ∀ {l : List Oper} {k : Nat}, EachS P ops F S ds sp k l → ∀ (j : Nat) (o : Oper), l[j]? = some o → sp.contains (k + j) = false →
  ∀ a w, a.defers = ds → S w → Knows (Kn F [] fun _ _ _ => False) (o.looksAt ops) a w → Does P ops (fun w w' => w' = w) (Kn F [] fun _ _ _ => False) o a w
 | [], _, _, j, o, h, _ => by simp at h
 | x :: l, k, hE, 0, o, h, hn => by
  simp at h; subst h
  rcases hE.1 with h1 | h1
  ·rw [Nat.add_zero] at hn; rw [hn] at h1; cases h1
  ·exact h1
 | x :: l, k, hE, j + 1, o, h, hn => hE.2.get j o (by simpa using h) (by rw [show k + 1 + j = k + (j + 1) by omega]; exact hn)
def chainSp (md : Region.Mode) (ops : Array Oper) (n : Nat) : List Nat → Bool
 | [] => false
 | [i] => i == n
 | i :: j :: r => decide (i < n) && Region.waitsFor md ops j i && chainSp md ops n (j :: r)
theorem chainSp_last {n : Nat} : ∀ {l : List Nat}, chainSp md ops n l = true → l[l.length - 1]? = some n
 | [], h => by cases h
 | [i], h => by simp [chainSp] at h; simp [h]
 | i :: j :: r, h => by
  simp only [chainSp, Bool.and_eq_true] at h
  have := chainSp_last h.2
  simpa using this
theorem chainSp_waits {n : Nat} : ∀ {l : List Nat}, chainSp md ops n l = true → ∀ (k i j : Nat), l[k]? = some i → l[k + 1]? = some j → Region.waitsFor md ops j i = true
 | [], h, _, _, _, _, _ => by cases h
 | [x], h, k, i, j, h1, h2 => by simp at h2
 | x :: y :: r, h, 0, i, j, h1, h2 => by
  simp at h1 h2; subst h1 h2
  simp only [chainSp, Bool.and_eq_true] at h
  exact h.1.2
 | x :: y :: r, h, k + 1, i, j, h1, h2 => by
  simp only [chainSp, Bool.and_eq_true] at h
  exact chainSp_waits h.2 k i j (by simpa using h1) (by simpa using h2)
theorem chainSp_low {n : Nat} : ∀ {l : List Nat}, chainSp md ops n l = true → ∀ (k i : Nat), l[k]? = some i → k + 1 < l.length → i < n
 | [], h, _, _, _, _ => by cases h
 | [x], h, k, i, h1, h2 => by simp at h2
 | x :: y :: r, h, 0, i, h1, h2 => by
  simp at h1; subst h1
  simp only [chainSp, Bool.and_eq_true, decide_eq_true_eq] at h
  exact h.1.1
 | x :: y :: r, h, k + 1, i, h1, h2 => by
  simp only [chainSp, Bool.and_eq_true] at h
  exact chainSp_low h.2 k i (by simpa using h1) (by simpa using h2)

theorem sp_inj {n : Nat} {l : List Nat} (hc : chainSp md ops n l = true) (hlt : ∀ (j : Nat) (o : Oper), ops[j]? = some o → ∀ e ∈ o.after, e.on < j) : ∀ (d k i j : Nat), l[k]? = some i → l[k + d + 1]? = some j → i < j := by
 intro d
 induction d with
 | zero =>
  intro k i j h1 h2
  obtain ⟨o, ho, e, he, _, hon⟩ := Region.waitsFor_spec (chainSp_waits hc k i j h1 h2)
  have := hlt j o ho e he
  omega
 | succ d ih =>
  intro k i j h1 h2
  have hk : k + d + 1 < l.length := by have := (List.getElem?_eq_some_iff.1 h2).1; omega
  have h3 := ih k i _ h1 (List.getElem?_eq_getElem hk)
  obtain ⟨o, ho, e, he, _, hon⟩ := Region.waitsFor_spec (chainSp_waits hc (k + d + 1) _ j (List.getElem?_eq_getElem hk) h2)
  have := hlt j o ho e he
  omega

theorem wp_region_chain {id : Nat} {a : Act} {w : World} (sp : List Nat) (n : Nat) (Ws : Nat → World) (vs : List Value) (F : Array Value)
  (hm : P.follows .mixedOrders = true) (hck : ck .any ops [] = true) (hb : below ops a.tmps.size = true)
  (hF : putL a.tmps (ops.toList.map (·.dst)) vs = F)
  (hsz : ops.size = n + 1) (hsink : Region.sinkB .any ops n = true) (hsp : chainSp .any ops n sp = true) (h0 : Ws 0 = w.drew)
  (hspec : SpecAll P ops F a.defers Ws 0 sp)
  (hall : EachS P ops F (fun W => ∃ k, k < sp.length ∧ W = Ws k) a.defers sp 0 ops.toList)
  (wE : World) (hE : Ws sp.length = wE) (hQ : Q .normal { a with tmps := F } wE) : (Code.region id ops true).wp P Q a w := by
 subst hE
 obtain ⟨hsel, hlt, hone, hlook⟩ := ck_spec hck
 have hFs : F.size = a.tmps.size := by rw [← hF, putL_size]
 have hin := below_spec hb
 have hch : Region.chainB .any ops n = true := by
  unfold Region.chainB
  rw [List.all_eq_true]
  intro t ht
  have := List.mem_range.1 ht
  simp only [Bool.or_eq_true, decide_eq_true_eq]
  left; omega
 have hlast := chainSp_last hsp
 have hpos : 0 < sp.length := by have := (List.getElem?_eq_some_iff.1 hlast).1; omega
 have key : ∀ (fuel : Nat) (listed : Array Bool) (b : Act) (W : World), listed.size = ops.size → left ops listed ≤ fuel → b.tmps.size = a.tmps.size → b.defers = a.defers →
   (∀ t < a.tmps.size, Settled ops listed t → b.tmps[t]? = F[t]?) →
   ((∃ s, s < sp.length ∧ W = Ws s ∧ HeadInv .any ops n listed ∧ ∀ k i, sp[k]? = some i → (listed.getD i true = true ↔ k < s)) ∨ (W = Ws sp.length ∧ ∀ j, j < ops.size → listed.getD j true = true)) →
   wpAny P .any ops Q fuel listed b W := by
  intro fuel
  have fin : ∀ (listed : Array Bool) (b : Act) (W : World), listed.size = ops.size → b.tmps.size = a.tmps.size → b.defers = a.defers →
    (∀ t < a.tmps.size, Settled ops listed t → b.tmps[t]? = F[t]?) →
    ((∃ s, s < sp.length ∧ W = Ws s ∧ HeadInv .any ops n listed ∧ ∀ k i, sp[k]? = some i → (listed.getD i true = true ↔ k < s)) ∨ (W = Ws sp.length ∧ ∀ j, j < ops.size → listed.getD j true = true)) →
    Region.ready .any ops listed = [] → Q .normal b W := by
   intro listed b W hls hbs hbd hk hst hr
   have hl := listed_all hlt hls hr
   have hW : W = Ws sp.length := by
    rcases hst with ⟨s, hs, rfl, inv, hiff⟩ | ⟨h, _⟩
    ·exfalso
     have h1 : n < ops.size := by omega
     have h2 := hl n ops[n] (by simp [h1])
     have := (hiff (sp.length - 1) n hlast).1 h2
     omega
    ·exact h
   have hT : b.tmps = F := by
    apply Array.ext (by rw [hbs, hFs])
    intro i h1 h2
    have := hk i (by omega) fun j o ho _ => hl j o ho
    simpa [h1, h2] using this
   obtain ⟨bt, bd⟩ := b
   dsimp only at hT hbd
   rw [hW, hT, hbd]
   exact hQ
  induction fuel with
  | zero =>
   intro listed b W hls hleft hbs hbd hk hst
   have hr : Region.ready .any ops listed = [] := by
    rw [List.eq_nil_iff_forall_not_mem]
    intro j hj
    obtain ⟨h0, o, ho, _⟩ := mem_ready.1 hj
    have hlt' : j < ops.size := (Array.getElem?_eq_some_iff.1 ho).1
    have : 0 < left ops listed := List.countP_pos_iff.2 ⟨j, by simpa using hlt', by simp [h0]⟩
    omega
   exact ⟨hr, fin listed b W hls hbs hbd hk hst hr⟩
  | succ fuel ih =>
   intro listed b W hls hleft hbs hbd hk hst
   refine ⟨fun hr => fin listed b W hls hbs hbd hk hst hr, fun i hi => ?_⟩
   obtain ⟨hun, o, ho, hdep⟩ := mem_ready.1 hi
   have hilt : i < ops.size := (Array.getElem?_eq_some_iff.1 ho).1
   rcases hst with ⟨s, hs, rfl, inv, hiff⟩ | ⟨_, hall'⟩
   rotate_left
   ·rw [hall' i hilt] at hun; cases hun
   have hlook' : ∀ t ∈ o.looksAt ops, b.tmps[t]? = F[t]? := by
    intro t ht
    refine hk t ((hin i o ho).2 t ht) fun j x hx hxd => ?_
    obtain ⟨e, he, hb', rfl⟩ := hlook i o j x t ho hx hxd ht
    have h1 := hdep e he hb'
    have hj : e.on < ops.size := (Array.getElem?_eq_some_iff.1 hx).1
    have hj' : e.on < listed.size := by omega
    simpa [hj'] using h1
   have hknow : Knows (Kn F [] fun _ _ _ => False) (o.looksAt ops) b (Ws s) := by
    intro t ht
    have ht' := (hin i o ho).2 t ht
    refine ⟨b.tmps[t]'(by rw [hbs]; exact ht'), Array.getElem?_eq_getElem _, .inr ⟨by simp, ?_⟩⟩
    rw [← hlook' t ht]; exact Array.getElem?_eq_getElem _
   have hleft' : left ops (listed.setIfInBounds i true) ≤ fuel := by
    have : left ops (listed.setIfInBounds i true) < left ops listed := by
     refine countP_lt (x := i) (fun j _ hj => ?_) (by simpa using hilt) (by simp [hun]) (by simp [hls, hilt])
     by_cases hij : i = j
     ·subst hij; simp [hls, hilt] at hj
     ·rw [getD_set_ne true hij] at hj; exact hj
    omega
   have hslots : ∀ u, (∀ d, o.dst = some d → F[d]? = some u) → ∀ t < a.tmps.size, Settled ops (listed.setIfInBounds i true) t → (b.put o.dst u).tmps[t]? = F[t]? := by
    intro u hu t ht hset
    by_cases hdt : o.dst = some t
    ·rw [hu t hdt]
     have : t < b.tmps.size := by omega
     simp [Act.put, hdt, this]
    ·have hset' : Settled ops listed t := by
      intro j x hx hxd
      by_cases hij : i = j
      ·subst hij; rw [ho] at hx; cases hx; exact absurd hxd hdt
      ·rw [← getD_set_ne true hij]; exact hset j x hx hxd
     rw [← hk t ht hset']
     cases hod : o.dst with
     | none => simp [Act.put]
     | some d =>
      have : d ≠ t := fun e => hdt (by rw [hod, e])
      simp only [Act.put]
      rw [Array.getElem?_setIfInBounds_ne this]
   have hsize : ∀ u, (b.put o.dst u).tmps.size = a.tmps.size := fun u => by unfold Act.put; split <;> simp [hbs]
   have hdef : ∀ u, (b.put o.dst u).defers = a.defers := fun u => by unfold Act.put; split <;> exact hbd
   cases hc : sp.contains i with
   | false =>
    have hne : i ≠ n := by
     intro e; subst e
     have : i ∈ sp := List.mem_of_getElem? hlast
     rw [List.contains_iff_mem.2 this] at hc; cases hc
    have hdo := hall.get i o (by simpa using ho) (by simpa using hc) b (Ws s) hbd ⟨s, hs, rfl⟩ hknow
    refine hdo.wpOp (N := fun w w' => w' = w) ho rfl fun u w' hw' hp => ?_
    subst hw'
    refine ih _ _ _ (by simpa using hls) hleft' (hsize u) (hdef u) (hslots u fun d hd => ?_) (.inl ⟨s, hs, rfl, inv.set hi (by omega), fun k j hj => ?_⟩)
    ·rcases hp d hd with ⟨h, _⟩ | ⟨_, h⟩
     ·cases h
     ·exact h
    ·have hji : i ≠ j := fun e => by
      subst e
      rw [List.contains_iff_mem.2 (List.mem_of_getElem? hj)] at hc; cases hc
     rw [getD_set_ne true hji]
     exact hiff k j hj
   | true =>
    obtain ⟨k, hki⟩ := List.mem_iff_getElem?.1 (List.contains_iff_mem.1 hc)
    have hk1 : ¬ k < s := fun h => by rw [(hiff k i hki).2 h] at hun; cases hun
    have hk2 : k ≤ s := by
     cases k with
     | zero => omega
     | succ k =>
      have hkl : k < sp.length := by have := (List.getElem?_eq_some_iff.1 hki).1; omega
      have hkk : sp[k]? = some sp[k] := List.getElem?_eq_getElem hkl
      obtain ⟨o', ho', e, he, hb', hon⟩ := Region.waitsFor_spec (chainSp_waits hsp k _ i hkk hki)
      rw [ho] at ho'
      cases ho'
      have h1 := hdep e he hb'
      rw [hon] at h1
      have h2 : listed.getD sp[k] true = true := by
       have hlt2 : sp[k] < listed.size := by
        have := hlt i o ho e he
        omega
       simp [hlt2] at h1 ⊢; exact h1
      have := (hiff k _ hkk).1 h2
      omega
    obtain rfl : k = s := by omega
    obtain ⟨o', ho', hns, hwant, v, hrun, hv⟩ := hspec.get k i hki
    rw [ho] at ho'
    cases ho'
    rw [Nat.zero_add] at hrun
    have he : execOp b.eval o = execOp (Act.eval ⟨F, a.defers⟩) o := by
     refine execOp_congr o (noSel_spec hns) fun x hx => ?_
     cases x with
     | tmp t =>
      have ht : t ∈ o.looksAt ops := List.mem_append_left _ (List.mem_filterMap.2 ⟨.tmp t, by simpa using hx, rfl⟩)
      have := hlook' t ht
      simp [Act.eval, this]
     | _ => rfl
    have hw : Region.wanted o (yielded ops b.tmps) = true := by
     rw [← hwant]
     unfold Region.wanted
     cases hg : o.guard with
     | none => rfl
     | some gw =>
      obtain ⟨g, want⟩ := gw
      have hy : yielded ops b.tmps g = yielded ops F g := by
       unfold yielded
       cases ht : (ops[g]?).bind (·.dst) with
       | none => rfl
       | some t =>
        have := hlook' t (by simp [Oper.looksAt, hg, ht])
        simp [this]
      simp only [hy]
    have hnext : wpAny P .any ops Q fuel (listed.setIfInBounds i true) (b.put o.dst v) (Ws (k + 1)) := by
     refine ih _ _ _ (by simpa using hls) hleft' (hsize v) (hdef v) (hslots v hv) ?_
     by_cases hend : k + 1 < sp.length
     ·have hilow : i < n := chainSp_low hsp k i hki hend
      refine .inl ⟨k + 1, hend, rfl, inv.set hi hilow, fun k' j hj => ?_⟩
      by_cases hji : i = j
      ·subst hji
       have : k' = k := by
        rcases Nat.lt_trichotomy k' k with h | h | h
        ·have := sp_inj hsp hlt (k - k' - 1) k' i i hj (by rw [show k' + (k - k' - 1) + 1 = k by omega]; exact hki)
         omega
        ·exact h
        ·have := sp_inj hsp hlt (k' - k - 1) k i i hki (by rw [show k + (k' - k - 1) + 1 = k' by omega]; exact hj)
         omega
       subst this
       have : (listed.setIfInBounds i true).getD i true = true := by simp [hls, hilt]
       simp [this]
      ·rw [getD_set_ne true hji, hiff k' j hj]
       have : k' ≠ k := fun e => by subst e; rw [hki] at hj; cases hj; exact hji rfl
       omega
     ·have hkl : k = sp.length - 1 := by have := (List.getElem?_eq_some_iff.1 hki).1; omega
      have hin' : i = n := by rw [hkl, hlast] at hki; cases hki; rfl
      refine .inr ⟨by rw [show k + 1 = sp.length by omega], fun j hj => ?_⟩
      subst hin'
      by_cases hji : i = j
      ·subst hji; simp [hls, hilt]
      ·rw [getD_set_ne true hji]
       cases hlj : listed.getD j true with
       | true => rfl
       | false => exact absurd hi (tail_waits hsink hch hilt inv _ j rfl (by omega) hlj i (Nat.le_refl _))
    unfold wpOp
    simp only [ho, hw, if_true]
    refine .inl ?_
    unfold Oper.wp
    rw [he]
    rcases hrun with hrun | ⟨hrun, rfl⟩
    ·rw [hrun, Oper.upon_value]; exact hnext
    ·rw [hrun, Oper.upon_skip]; exact hnext
 refine wp_region_any hm (key ops.size _ a _ (by simp) left_start rfl rfl (fun t ht hset => ?_) (.inl ⟨0, hpos, ?_, ⟨by simp, fun j oj _ hl => (by rw [getD_replicate_false] at hl; cases hl), fun t _ ht => getD_in (by simpa using ht) (getD_replicate_false _ _)⟩, fun k i hki => ?_⟩))
 ·have hnd : some t ∉ ops.toList.map (·.dst) := by
   intro hm
   obtain ⟨o, ho, hod⟩ := List.mem_map.1 hm
   obtain ⟨j, hj⟩ := List.mem_iff_getElem?.1 ho
   have hj' : ops[j]? = some o := by simpa using hj
   have h5 := hset j o hj' hod
   have hlt : j < ops.size := (Array.getElem?_eq_some_iff.1 hj').1
   simp [hlt] at h5
  rw [← hF, putL_off _ _ _ hnd]
 ·rw [h0]; rfl
 ·have hil : i < ops.size := by
   by_cases e : k + 1 < sp.length
   ·have := chainSp_low hsp k i hki e; omega
   ·have hkl : k = sp.length - 1 := by have := (List.getElem?_eq_some_iff.1 hki).1; omega
    rw [hkl, hlast] at hki; cases hki; omega
  simp [hil]
end
end Go.Vals
end
section
namespace Go.Vals
open Go
theorem EachS.one {P : Program} {ops : Array Oper} {F : Array Value} {S : World → Prop} {ds : List Deferred} {sp : List Nat} {k : Nat} {o : Oper} {l : List Oper} (h : Each P ops (fun w w' => w' = w) (Kn F [] fun _ _ _ => False) S ds [o]) (hr : EachS P ops F S ds sp (k + 1) l) : EachS P ops F S ds sp k (o :: l) := ⟨.inr h.1, hr⟩
theorem EachS.skip {P : Program} {ops : Array Oper} {F : Array Value} {S : World → Prop} {ds : List Deferred} {sp : List Nat} {k : Nat} {o : Oper} {l : List Oper} (h : sp.contains k = true) (hr : EachS P ops F S ds sp (k + 1) l) : EachS P ops F S ds sp k (o :: l) := ⟨.inl h, hr⟩
def four (w0 w1 w2 w3 : World) : Nat → World
 | 0 => w0
 | 1 => w1
 | 2 => w2
 | _ => w3
theorem four_lt {w0 w1 w2 w3 W : World} (h : ∃ k, k < 3 ∧ W = four w0 w1 w2 w3 k) : W = w0 ∨ W = w1 ∨ W = w2 := by
 obtain ⟨k, hk, rfl⟩ := h
 rcases k with _ | _ | _ | k
 ·exact .inl rfl
 ·exact .inr (.inl rfl)
 ·exact .inr (.inr rfl)
 ·omega
theorem Turns.val {P : Program} {ops : Array Oper} {F : Array Value} {ds : List Deferred} {o : Oper} {w w' : World} {d : Tmp} (v : Value) (hs : noSel o = true) (hw : Region.wanted o (yielded ops F) = true) (hd : o.dst = some d) (hv : F[d]? = some v)
  (h : (execOp (Act.eval ⟨F, ds⟩) o).run P w = .ok (.value v) w') : Turns P ops F ds o w w' := ⟨hs, hw, v, .inl h, fun d' hd' => by rw [hd] at hd'; cases hd'; exact hv⟩
theorem Turns.skip {P : Program} {ops : Array Oper} {F : Array Value} {ds : List Deferred} {o : Oper} {w w' : World} (hs : noSel o = true) (hw : Region.wanted o (yielded ops F) = true) (hd : o.dst = none)
  (h : (execOp (Act.eval ⟨F, ds⟩) o).run P w = .ok .skip w') : Turns P ops F ds o w w' := ⟨hs, hw, undef, .inr ⟨h, rfl⟩, fun d' hd' => by rw [hd] at hd'; cases hd'⟩
end Go.Vals
namespace Go.Proofs.YtodnlcbnbkkanaaGreatDoor
open Go Go.RowKit Go.Vals

section
variable {w : World} {o : Oper} {ρ : Operand → Value}
theorem ap_of {s x : Operand} {t : TypeId} {v u v' : Value} {w' : World} (ho : o.op = .call { callee := .builtin .append, args := #[s, x], argTypes := #[t, t] }) (hs : ρ s = v) (hx : ρ x = u)
  (hr : (Builtin.append_ #[t, t] o.type #[v, u]).run Tryz.prog w = .ok v' w') : (execOp ρ o).run Tryz.prog w = .ok (.value v') w' := by
 unfold execOp
 simp only [ho, resolve, invoke, builtin, Sem.run_bind, Sem.run_pure, Result.andThen_ok, List.map_toArray, List.map_cons, List.map_nil, hs, hx, hr]
end
end Go.Proofs.YtodnlcbnbkkanaaGreatDoor
end
section
namespace Go.Proofs.YtodnlcbnbkkanaaGreatDoor
open Go Go.RowKit Go.Maps

theorem Tryz.info48 : (Tryz.prog.info? 48).map (fun i => (i.zero, i.size, i.bytes)) = some (some (.slice none 0 0), 1, 24) := by kernel_rfl
theorem make_rows (n : Nat) (hn : n ≤ 1000) (w : World) : (Instr.makeSlice 111 (.int .i64 (n : Int)) (.int .i64 (n : Int))).run Tryz.prog w = .ok (.slice (some ⟨w.heap.size, 0, none⟩) n n) (w.alloc (.cells (List.replicate n (.slice none 0 0)).toArray 48)) := by
 obtain ⟨i0, hi, hz0, hz1, hz2⟩ := info_parts Tryz.info48
 have e : (List.replicate n (Value.slice none 0 0)).toArray = madeCells #[.slice none 0 0] n := by
  unfold madeCells
  apply Array.ext'
  simp [Nat.mod_one, List.map_const']
 rw [e]
 exact run_make_row 111 48 i0 (.slice none 0 0) Tryz.underlying111 hi hz0 hz1 rfl .i64 .i64 n (by rw [hz2]; omega) (by omega) w

structure NX (w : World) (N B n : Nat) (vals : List Value) (rows : List (List Int)) (W : World) : Prop where
 blk : Blk W B 48 vals.toArray
 vlen : vals.length = n
 rlen : rows.length = n
 own : ∀ (k : Nat) (v : Value) (r : List Int), vals[k]? = some v → rows[k]? = some r → W.ownsRow N 3 1 v r.length (cellsL intC r)
 apart : ∀ (i j : Nat) (u v : Value) (g : Nat), vals[i]? = some u → vals[j]? = some v → u.ownBlock = some g → v.ownBlock = some g → i = j
 low : Below w.heap.size w W
 hx : w.heap.size ≤ B ∧ B < N ∧ N ≤ W.heap.size
theorem own_lt {W : World} {b e s n : Nat} {v : Value} {xs : List Value} (h : W.ownsRow b e s v n xs) {g : Nat} (hg : v.ownBlock = some g) : b ≤ g ∧ g < W.heap.size := by
 rcases h.2 with ⟨rfl, _⟩ | ⟨g', cap, cur, rfl, h1, h2, _⟩
 ·cases hg
 ·have : g' = g := by simpa [Value.ownBlock] using hg
  subst this
  exact ⟨h1, (Array.getElem?_eq_some_iff.1 h2).1⟩
theorem own_keep {W V : World} {b e s n : Nat} {v : Value} {xs : List Value} (h : W.ownsRow b e s v n xs) {q : Option Nat} (hg : W.grownBy V q) (hne : ∀ g, v.ownBlock = some g → some g ≠ q) : V.ownsRow b e s v n xs := by
 refine ⟨h.1, ?_⟩
 rcases h.2 with h1 | ⟨g, cap, cur, rfl, h1, h2, h3⟩
 ·exact .inl h1
 ·exact .inr ⟨g, cap, cur, rfl, h1, (hg.block g (Array.getElem?_eq_some_iff.1 h2).1 (hne g rfl)).trans h2, h3⟩
theorem NX.below {w : World} {N B n : Nat} {vals : List Value} {rows : List (List Int)} {W V : World} (h : NX w N B n vals rows W) (hg : W.grownBy V none) : NX w N B n vals rows V :=
 ⟨h.blk.kept hg (by simp), h.vlen, h.rlen, fun k v r hv hr => own_keep (h.own k v r hv hr) hg (fun g _ => by simp), h.apart, h.low.grown hg h.low.size (fun j e => by cases e), by have := h.hx; have := hg.size; omega⟩
theorem NX.put {w : World} {N B n : Nat} {vals : List Value} {rows : List (List Int)} {W V : World} (h : NX w N B n vals rows W) {k : Nat} {v v' : Value} {r : List Int} {t : Int} (hv : vals[k]? = some v) (hr : rows[k]? = some r)
  (ho : V.ownsRow N 3 1 v' (r.length + 1) (cellsL intC (r ++ [t]))) (hg : W.grownBy V v.ownBlock) (hb : ∀ g, v'.ownBlock = some g → v.ownBlock = some g ∨ W.heap.size ≤ g) :
  NX w N B n (vals.set k v') (rows.set k (r ++ [t])) (V.setCell ⟨B, k, none⟩ v') := by
 have hx := h.hx
 have hkv := (List.getElem?_eq_some_iff.1 hv).1
 have hkr := (List.getElem?_eq_some_iff.1 hr).1
 have hov := h.own k v r hv hr
 have hgl : ∀ g, v.ownBlock = some g → N ≤ g ∧ g < W.heap.size := fun g hg => own_lt hov hg
 have hBk : Blk V B 48 vals.toArray := h.blk.kept hg (fun e => by have := hgl B e.symm; omega)
 refine ⟨by have := hBk.set k v'; rwa [List.setIfInBounds_toArray] at this, by rw [List.length_set]; exact h.vlen, by rw [List.length_set]; exact h.rlen, fun i u s hu hs => ?_, fun i j u x g hu hx' h1 h2 => ?_, ?_, ?_⟩
 ·have hput : ∀ {e s n : Nat} {v : Value} {xs : List Value}, V.ownsRow N e s v n xs → (V.setCell ⟨B, k, none⟩ v').ownsRow N e s v n xs := fun h => own_put h hx.2.1 _
  refine hput ?_
  rw [List.getElem?_set] at hu hs
  by_cases e : k = i
  ·subst e
   rw [if_pos rfl, if_pos hkv] at hu
   rw [if_pos rfl, if_pos hkr] at hs
   cases hu; cases hs
   rw [List.length_append]; exact ho
  ·rw [if_neg e] at hu hs
   exact own_keep (h.own i u s hu hs) hg fun g h1 h2 => e (h.apart k i v u g hv hu h2.symm h1)
 ·have old : ∀ (i : Nat) (u : Value) (g : Nat), i ≠ k → vals[i]? = some u → u.ownBlock = some g → v'.ownBlock = some g → False := fun i u g hne hu h1 h2 => by
   rcases hb g h2 with h3 | h3
   ·exact hne (h.apart i k u v g hu hv h1 h3)
   ·obtain ⟨s, hs⟩ : ∃ s, rows[i]? = some s := ⟨_, List.getElem?_eq_getElem (by rw [h.rlen, ← h.vlen]; exact (List.getElem?_eq_some_iff.1 hu).1)⟩
    have := own_lt (h.own i u s hu hs) h1
    omega
  rw [List.getElem?_set] at hu hx'
  by_cases e1 : k = i
  ·by_cases e2 : k = j
   ·omega
   ·rw [if_pos e1, if_pos hkv] at hu
    rw [if_neg e2] at hx'
    cases hu
    exact (old j x g (fun e => e2 e.symm) hx' h2 h1).elim
  ·rw [if_neg e1] at hu
   by_cases e2 : k = j
   ·rw [if_pos e2, if_pos hkv] at hx'
    cases hx'
    exact (old i u g (fun e => e1 e.symm) hu h1 h2).elim
   ·rw [if_neg e2] at hx'
    exact h.apart i j u x g hu hx' h1 h2
 ·exact (h.low.grown hg h.low.size fun j e => Nat.le_trans (by omega) (hgl j e).1).setCell (p := ⟨B, k, none⟩) hx.1 _
 ·rw [World.size_setCell]; have := hg.size; omega
theorem NX.next {w : World} {N B n : Nat} {vals : List Value} {rows : List (List Int)} {W : World} (h : NX w N B n vals rows W) : NextIn B vals rows n W :=
 ⟨h.blk, h.vlen, h.rlen, fun k v r hv hr => by
  obtain ⟨a, c, h1, h2⟩ := own_row (G := NoG) (cs := intC) (fun _ => rfl) (h.own k v r hv hr) (fun _ _ => trivial)
  exact ⟨a, c, h1, h2⟩⟩
end Go.Proofs.YtodnlcbnbkkanaaGreatDoor
end
section
namespace Go.Proofs.YtodnlcbnbkkanaaGreatDoor
open Go Go.RowKit Go.Maps

def LeadE (g : GramM) (M L : List Bool) (k t : Nat) : Prop := LeadU g M (livL g L) (livL g L).length 0 ((k : Int), (t : Int))
def CircP (g : GramM) (R : List Bool) : Prop := R.length = g.sorts.length ∧ ∃ M L, NullP g M ∧ Live g L ∧ ∀ k : Nat, k < g.sorts.length → (R[k]? = some true ↔ Far (LeadE g M L) k k)
structure CR (w : World) (N B n nn b r : Nat) (K L : Int × Int → Prop) (cnt : Nat) (vals : List Value) (rows : List (List Int)) (W : World) : Prop where
 rg : RangeL W b r nn K L cnt
 nx : NX w N B n vals rows W
 lt : b < N ∧ r < N ∧ b ≠ B ∧ r ≠ B
 mem : ∀ (k : Nat) (t : Int), (∃ rr, rows[k]? = some rr ∧ t ∈ rr) ↔ (K ((k : Int), t) ∧ ¬ L ((k : Int), t))
 len : ∀ rr, rr ∈ rows → rr.length + cnt ≤ nn
 sub : ∀ p, L p → K p

theorem bools_setv (L : List Bool) (i : Nat) (b : Bool) : (bools L).setIfInBounds i (.bool b) = bools (L.set i b) := by
 unfold bools
 rw [List.setIfInBounds_toArray, List.map_set]
open Go.Vals
section
variable {w : World} {o : Oper} {ρ : Operand → Value}
theorem ix111 {x y : Operand} {g f n c k q : Nat} (ho : o.op = .indexAddr 111 x y) (hx : ρ x = .slice (some ⟨g, f, none⟩) n c) (hy : ρ y = .int .i64 (k : Int)) (hk : k < n) (hq : f + k = q) : (execOp ρ o).run Tryz.prog w = .ok (.value (.pointer (some ⟨g, q, none⟩))) w := by
 subst hq
 unfold execOp; rw [ho]; simp only [hx, hy]
 have h0 : (0 : Int) ≤ k := by omega
 have h1 : (k : Int) < n := by omega
 go_simp
theorem fa115_0 {x : Operand} {g m : Nat} (ho : o.op = .fieldAddr 115 x 0) (hx : ρ x = .pointer (some ⟨g, m, none⟩)) : (execOp ρ o).run Tryz.prog w = .ok (.value (.pointer (some ⟨g, m, none⟩))) w := by
 unfold execOp; rw [ho]; simp only [hx]
 go_simp
theorem fa115_1 {x : Operand} {g m : Nat} (ho : o.op = .fieldAddr 115 x 1) (hx : ρ x = .pointer (some ⟨g, m, none⟩)) : (execOp ρ o).run Tryz.prog w = .ok (.value (.pointer (some ⟨g, m + 1, none⟩))) w := by
 unfold execOp; rw [ho]; simp only [hx]
 go_simp
theorem bs48 {x : Operand} {a : Int} (ho : o.op = .buildSlice 48 1 #[(0, x)]) (hx : ρ x = .int .i64 a) : (execOp ρ o).run Tryz.prog w = .ok (.value (.slice (some ⟨w.heap.size, 0, none⟩) 1 1)) (w.alloc (.cells #[.int .i64 a] 3)) := by
 unfold execOp; rw [ho]; simp only [List.map_toArray, List.map_cons, List.map_nil, hx]
 go_simp
theorem st48 {x y : Operand} {b i n c : Nat} {u : Value} {q : Option Addr} (ho : o.op = .store 48 x y) (hx : ρ x = .pointer (some ⟨b, i, none⟩)) (hy : ρ y = .slice q n c) (hc : w.cell? ⟨b, i, none⟩ = some u) (hf : w.frozen? ⟨b, i, none⟩ = false) (hl : b < w.heap.size) : (execOp ρ o).run Tryz.prog w = .ok .skip (w.setCell ⟨b, i, none⟩ (.slice q n c)) := by
 unfold execOp; rw [ho]; simp only [hx, hy]
 go_simp
end

set_option maxRecDepth 100000 in
set_option maxHeartbeats 8000000 in
theorem circular_any (g : GramM) (hm : MayB g) (hf : Fit g) (w : World) (hg : GIn w g) : Calls Tryz.prog 49 #[gramV g] w (MarksPost w (CircP g)) := by
 obtain ⟨i3, ti3, tz3, ts3, tb3⟩ := info_parts Tryz.info3
 have hmk := fun w' => make_bools g.sorts.length hm.sorts2 w'
 have hmr := fun w' => make_rows g.sorts.length hm.sorts2 w'
 obtain ⟨RL, hRL⟩ : ∃ RL : List Bool, RL = List.replicate g.sorts.length false := ⟨_, rfl⟩
 obtain ⟨VL, hVL⟩ : ∃ VL : List Value, VL = List.replicate g.sorts.length (.slice none 0 0) := ⟨_, rfl⟩
 rw [← hRL] at hmk
 rw [← hVL] at hmr
 obtain ⟨W1, hW1⟩ : ∃ W1, W1 = (w.alloc (.cells (gramC g) 27)).alloc (.cells VL.toArray 48) := ⟨_, rfl⟩
 have k0 : Blk W1 w.heap.size 27 (gramC g) := by rw [hW1]; exact (Blk.new w 27 (gramC g)).alloc _
 have k1 : Blk W1 (w.heap.size + 1) 48 VL.toArray := by rw [hW1]; have := Blk.new (w.alloc (.cells (gramC g) 27)) 48 VL.toArray; rwa [World.size_alloc] at this
 have hs1 : W1.heap.size = w.heap.size + 2 := by rw [hW1]; simp
 have hB1 : Below w.heap.size w W1 := by rw [hW1]; exact ((Below.refl _ w).alloc (Nat.le_refl _) _).alloc (by simp) _
 have HLd := Lib.hid (leads_any g hm hf W1 (hg.below hB1))
 have HMB := Lib.hid hm
 have HK0 := Lib.hid k0
 have HK1 := Lib.hid k1
 have HB1 := Lib.hid hB1
 have Hs1 := Lib.hid hs1
 have HW1 := Lib.hid hW1
 have HRL := Lib.hid hRL
 have HVL := Lib.hid hVL
 obtain ⟨n, hn⟩ : ∃ n, n = g.sorts.length := ⟨_, rfl⟩
 have Hn := Lib.hid hn
 have hn2 := hm.sorts2
 clear hm hf hg k0 k1 hs1 hB1 hW1 hRL hVL
 unfold gramV gramC at *
 rw [← hn] at hn2 hmk hmr HLd HK0 HW1 ⊢
 clear hn
 go_enter Tryz.func49, Tryz.ntmps49
 go_upto_region 2 with (fail)
 rw [← HW1.out]
 have c0 := HK0.out.cell 0
 have c1 := HK0.out.cell 1
 have c2 := HK0.out.cell 2
 have c3 := HK0.out.cell 3
 have c4 := HK0.out.cell 4
 have l0 := HK0.out.lt
 go_wp2_with fail
 refine HLd.out.mono ?_
 rintro e w3 ⟨b, nn, M, L, hM, hL, rfl, hbl, hmp, hnn, hB3⟩
 have hB3w : Below w.heap.size w w3 := HB1.out.trans (hB3.mono HB1.out.size)
 have HK03 := Lib.hid (HK0.out.below hB3 HK0.out.lt)
 have HK13 := Lib.hid (HK1.out.below hB3 HK1.out.lt)
 have HM := Lib.hid hM
 have HL := Lib.hid hL
 have hs3 := hB3.size
 have hbN := hmp.lt
 have HBw := Lib.hid hB3w
 have HKK : Hid (∀ p, LeadU g M (livL g L) (livL g L).length 0 p → ∃ k t : Nat, p = ((k : Int), (t : Int)) ∧ k < n ∧ t < n) := Lib.hid fun p ⟨j', i', x, h1, _, s, h2, h3, _, h4⟩ => by
  have hx := (livL_mem.1 (List.mem_of_getElem? h1)).1
  obtain ⟨k, hk, hkn⟩ := HMB.out.left x hx
  obtain ⟨t, ht, htn⟩ := HMB.out.sym x hx s (List.mem_of_getElem? h2) h3
  exact ⟨k, t, by rw [h4, hk, ht], by rw [Hn.out]; exact hkn, by rw [Hn.out]; exact htn⟩
 have HCE : Hid (∀ R : List Bool, R.length = n → (∀ k : Nat, k < n → (R[k]? = some true ↔ Far (LeadE g M L) k k)) → CircP g R) := Lib.hid fun R h1 h2 => ⟨h1.trans Hn.out, M, L, HM.out, HL.out, fun k hk => h2 k (by rw [Hn.out]; exact hk)⟩
 obtain ⟨K, hK⟩ : ∃ K, K = LeadU g M (livL g L) (livL g L).length 0 := ⟨_, rfl⟩
 have HKE : Hid (∀ k t : Nat, LeadE g M L k t ↔ K ((k : Int), (t : Int))) := Lib.hid fun k t => by rw [hK]; exact Iff.rfl
 rw [← hK] at hmp HKK
 have hbs : w.heap.size + 2 ≤ b := by have := Hs1.out; omega
 clear hM hL hB3 hB3w hK HLd HB1 HMB c0 c1 c2 c3 c4 l0
 go_wp2_with (first
  | (at_range; refine wpList_rangeL _ rfl _ rfl b nn K rfl hmp ?_; intro w4 cnt4 hrg4 hc4 hg4 hs4)
  | go_in)
 have hB4 : Below w.heap.size w w4 := HBw.out.grown hg4 HBw.out.size (fun j e => by cases e)
 have hnil : ∀ k v, VL[k]? = some v → v = (Value.slice none 0 0) := fun k v hv => by
  rw [HVL.out, List.getElem?_replicate] at hv
  split at hv <;> simp at hv
  exact hv.symm
 have hNX : NX w w4.heap.size (w.heap.size + 1) n VL (List.replicate n []) w4 := by
  refine ⟨HK13.out.kept hg4 (by simp), by rw [HVL.out, List.length_replicate, Hn.out], by simp, fun k v r hv hr => ?_, fun i j u v g hu hv h1 _ => ?_, hB4, by omega, by omega, Nat.le_refl _⟩
  ·rw [hnil k v hv]
   rw [List.getElem?_replicate] at hr
   split at hr <;> simp at hr
   subst hr
   exact ⟨rfl, .inl ⟨rfl, rfl⟩⟩
  ·rw [hnil i u hu] at h1; cases h1
 have HCR : Hid (CR w w4.heap.size (w.heap.size + 1) n nn b w3.heap.size K K cnt4 VL (List.replicate n []) w4) := Lib.hid ⟨hrg4, hNX, by omega, fun k t => by
  constructor
  ·rintro ⟨rr, h1, h2⟩
   rw [List.getElem?_replicate] at h1
   split at h1 <;> simp at h1
   subst h1; cases h2
  ·rintro ⟨h1, h2⟩
   exact absurd h1 h2, fun rr h => by rw [List.eq_of_mem_replicate h]; simpa using hc4, fun p h => h⟩
 have HG4 := Lib.hid (HK03.out.kept hg4 (by simp))
 obtain ⟨N, hN⟩ : ∃ N, N = w4.heap.size := ⟨_, rfl⟩
 obtain ⟨r, hr⟩ : ∃ r, r = w3.heap.size := ⟨_, rfl⟩
 rw [← hN, ← hr] at HCR
 rw [← hr]
 have hlt1 : b < r := by omega
 clear hrg4 hc4 hg4 hB4 hnil hNX HK03 HK13 hN hr hs4 hmp HBw hbN hs3
 go_frame
 go_loopw [14] (fun _ wr => ∃ (Lf : Int × Int → Prop) (cnt : Nat) (vals : List Value) (rows : List (List Int)), Hid (CR w N (w.heap.size + 1) n nn b r K Lf cnt vals rows wr) ∧ Hid (Blk wr w.heap.size 27 #[.slice g.sa n g.sc, .slice g.pa g.prods.length g.pc, .int .i64 g.start, .slice g.fa g.forbid.length g.fc, .slice g.wa g.follow.length g.wc]))
  (fun _ wr => wr.rangeLeft b r)
 case atStart => exact ⟨K, cnt4, VL, List.replicate n [], HCR, HG4⟩
 case round =>
  clear HCR HG4
  obtain ⟨Lf, cnt, vals, rows, KC, KG⟩ := hrel
  go_wp2_with (first
   | (at_next; refine wpList_nextL _ rfl _ rfl b r nn cnt K Lf rfl KC.out.rg ?_ ?_)
   | go_in)
  ·intro hc0 hl0
   have HNx := Lib.hid KC.out.nx.next
   have HBl := Lib.hid KC.out.nx.low
   have hbB := KC.out.nx.blk.lt
   have HSE : Hid (stepE rows = LeadE g M L) := Lib.hid (funext fun k => funext fun t => propext (by
    rw [HKE.out k t]
    unfold stepE
    rw [KC.out.mem k t]
    exact ⟨fun h => h.1, fun h => ⟨h, hl0 _ _⟩⟩))
   have HLen : Hid (∀ r, r ∈ rows → r.length ≤ 100000) := Lib.hid fun r hr => by have := KC.out.len r hr; omega
   have HIn : Hid (∀ r, r ∈ rows → ∀ t, t ∈ r → ∃ k : Nat, t = k ∧ k < n) := Lib.hid fun r hr t ht => by
    obtain ⟨k, hk⟩ := List.mem_iff_getElem?.1 hr
    obtain ⟨h1, _⟩ := (KC.out.mem k t).1 ⟨r, hk, ht⟩
    obtain ⟨k', t', e, _, h2⟩ := HKK.out _ h1
    exact ⟨t', by simpa using congrArg Prod.snd e, h2⟩
   have HRl : Hid (RL.length = n) := Lib.hid (by rw [HRL.out, List.length_replicate, Hn.out])
   have HBlk := Lib.hid KG.out
   have c0 := KG.out.cell 0
   have l0 := KG.out.lt
   clear KC hl0 hc0 KG
   go_upto_region 7 with (fail)
   have HJ0 : Hid (Below w.heap.size w (wr.alloc (.cells (bools RL) 4)) ∧ Below wr.heap.size wr (wr.alloc (.cells (bools RL) 4)) ∧ Blk (wr.alloc (.cells (bools RL) 4)) wr.heap.size 4 (bools RL) ∧ RL.length = n ∧ ∀ k : Nat, k < 0 → (RL[k]? = some true ↔ Far (stepE rows) k k)) :=
    Lib.hid ⟨HBl.out.alloc HBl.out.size _, (Below.refl _ _).alloc (Nat.le_refl _) _, Blk.new wr 4 _, HRl.out, fun k hk => by omega⟩
   have hBo : w.heap.size ≤ wr.heap.size := HBl.out.size
   obtain ⟨Bo, hBoe⟩ : ∃ Bo, Bo = wr.heap.size := ⟨_, rfl⟩
   rw [← hBoe] at HJ0 hBo ⊢
   obtain ⟨wx, hwx⟩ : ∃ wx, wx = wr := ⟨_, rfl⟩
   have HBoe : Hid (Bo = wx.heap.size) := Lib.hid (by rw [hwx]; exact hBoe)
   have HNx2 : Hid (NextIn (w.heap.size + 1) vals rows n wx) := Lib.hid (by rw [hwx]; exact HNx.out)
   have HJ0 : Hid (Below w.heap.size w (wr.alloc (.cells (bools RL) 4)) ∧ Below Bo wx (wr.alloc (.cells (bools RL) 4)) ∧ Blk (wr.alloc (.cells (bools RL) 4)) Bo 4 (bools RL) ∧ RL.length = n ∧ ∀ k : Nat, k < 0 → (RL[k]? = some true ↔ Far (stepE rows) k k)) := Lib.hid (by rw [hwx]; exact HJ0.out)
   clear hwx
   have hBB : w.heap.size + 1 < Bo := by omega
   clear hBoe HNx HBl HRl HBlk c0 l0 hbB
   go_wp2
   go_loopw [37] (fun vj wr => ∃ (j : Nat) (R : List Bool), vj = .int .i64 j ∧ j ≤ n ∧ Hid (Below w.heap.size w wr ∧ Below Bo wx wr ∧ Blk wr Bo 4 (bools R) ∧ R.length = n ∧ ∀ k : Nat, k < j → (R[k]? = some true ↔ Far (stepE rows) k k))) (fun vj _ => n - (intOf vj).toNat)
   case atStart => exact ⟨0, RL, rfl, Nat.zero_le _, HJ0⟩
   case round =>
    clear HJ0
    obtain ⟨j, R, rfl, hj, KJ⟩ := hrel
    by_cases hjn : j < n
    ·have HC := Lib.hid (comesBack_any vals rows n (w.heap.size + 1) j wr hn2 (HNx2.out.below (HBoe.out ▸ KJ.out.2.1)) HLen.out HIn.out hjn)
     have z1 : (j : Int) < (n : Int) := by omega
     have z0 : (0 : Int) ≤ (j : Int) := by omega
     go_wp2_with fail
     refine HC.out.mono ?_
     rintro e w6 ⟨v, rfl, hv, hB6⟩
     have HV := Lib.hid hv
     have hblk6 := KJ.out.2.2.1.below hB6 KJ.out.2.2.1.lt
     have cB := hblk6.cell j
     rw [bools_at R j (by rw [KJ.out.2.2.2.1]; exact hjn)] at cB
     have fB := hblk6.frozen j
     have lB := hblk6.lt
     have HZ : Hid (Below w.heap.size w (w6.setCell ⟨Bo, j, none⟩ (.bool v)) ∧ Below Bo wx (w6.setCell ⟨Bo, j, none⟩ (.bool v)) ∧ Blk (w6.setCell ⟨Bo, j, none⟩ (.bool v)) Bo 4 (bools (R.set j v)) ∧ (R.set j v).length = n ∧ ∀ k : Nat, k < j + 1 → ((R.set j v)[k]? = some true ↔ Far (stepE rows) k k)) := Lib.hid (by
      refine ⟨(KJ.out.1.trans (hB6.mono KJ.out.1.size)).setCell (p := ⟨Bo, j, none⟩) hBo _, (KJ.out.2.1.trans (hB6.mono (HBoe.out ▸ KJ.out.2.1.size))).setCell (p := ⟨Bo, j, none⟩) (Nat.le_refl _) _, by rw [← bools_setv]; exact hblk6.set j _, by rw [List.length_set]; exact KJ.out.2.2.2.1, fun k hk => ?_⟩
      by_cases e : j = k
      ·subst e
       rw [List.getElem?_set_self (by rw [KJ.out.2.2.2.1]; exact hjn)]
       rw [← hv]
       simp
      ·rw [List.getElem?_set_ne e]
       exact KJ.out.2.2.2.2 k (by omega))
     clear hv hB6 hblk6 KJ HC
     go_wp2
     go_roundw
     case rel => exact ⟨j + 1, R.set j v, by go_num, by omega, HZ⟩
     case measure => simp [intOf]; omega
    ·obtain rfl : j = n := by omega
     have HF := Lib.hid (HCE.out R KJ.out.2.2.2.1 (fun k hk => by rw [← HSE.out]; exact KJ.out.2.2.2.2 k hk))
     have HRn : Hid (R.length = j) := Lib.hid KJ.out.2.2.2.1
     have HB := Lib.hid KJ.out.1
     have HBk := Lib.hid KJ.out.2.2.1
     clear KJ
     go_wp2
     go_ret
     exact ⟨R, Bo, HF.out, by rw [HRn.out]; rfl, hBo, HBk.out, HB.out⟩
  ·intro p1 p2 w5 cnt5 hLp hKp hrg5 hlt5 hg5 hs5 hen5
   obtain ⟨k, t, hp, hk, ht⟩ := HKK.out (p1, p2) hKp
   obtain ⟨rfl, rfl⟩ : p1 = k ∧ p2 = t := by simpa using hp
   clear hp
   have hx := KC.out.lt
   have hNX5 : NX w N (w.heap.size + 1) n vals rows w5 := by
    have h := KC.out.nx
    have hx' := h.hx
    have hri : ∀ (k : Nat) (v : Value) (rr : List Int), vals[k]? = some v → rows[k]? = some rr → ∀ g, v.ownBlock = some g → some g ≠ some r := fun k v rr hv hr g hg e => by
     have := own_lt (h.own k v rr hv hr) hg
     cases e
     omega
    exact ⟨h.blk.kept hg5 (by simp; omega), h.vlen, h.rlen, fun k v rr hv hr => own_keep (h.own k v rr hv hr) hg5 (hri k v rr hv hr), h.apart, h.low.grown hg5 h.low.size (fun j e => by cases e; omega), by have := hg5.size; omega⟩
   have hNX6 := hNX5.below (World.grownBy_alloc w5 (.cells #[.int .i64 (k : Int), .int .i64 (t : Int)] 115) none)
   have hbx := Blk.new w5 115 #[.int .i64 (k : Int), .int .i64 (t : Int)]
   have hrg6 := hrg5.alloc (.cells #[.int .i64 (k : Int), .int .i64 (t : Int)] 115)
   have HG6 : Hid (Blk (w5.alloc (.cells #[.int .i64 (k : Int), .int .i64 (t : Int)] 115)) w.heap.size 27 #[.slice g.sa n g.sc, .slice g.pa g.prods.length g.pc, .int .i64 g.start, .slice g.fa g.forbid.length g.fc, .slice g.wa g.follow.length g.wc]) := Lib.hid ((KG.out.kept hg5 (by simp; omega)).alloc _)
   obtain ⟨v, hv⟩ : ∃ v, vals[k]? = some v := ⟨_, List.getElem?_eq_getElem (by rw [hNX6.vlen]; exact hk)⟩
   obtain ⟨rr, hrr⟩ : ∃ rr, rows[k]? = some rr := ⟨_, List.getElem?_eq_getElem (by rw [hNX6.rlen]; exact hk)⟩
   have hrl := KC.out.len rr (List.mem_of_getElem? hrr)
   obtain ⟨W0, hW0⟩ : ∃ W0, W0 = (w5.alloc (.cells #[.int .i64 (k : Int), .int .i64 (t : Int)] 115)).drew := ⟨_, rfl⟩
   have hNX0 : NX w N (w.heap.size + 1) n vals rows W0 := by rw [hW0]; exact hNX6.below (grown_of_below (Below.refl _ _).drew none)
   have hbx0 : Blk W0 w5.heap.size 115 #[.int .i64 (k : Int), .int .i64 (t : Int)] := by rw [hW0]; exact hbx
   have hrg0 : RangeL W0 b r nn K (fun t_1 => Lf t_1 ∧ ¬t_1 = ((k : Int), (t : Int))) cnt5 := by rw [hW0]; exact hrg6.kept (grown_of_below (Below.refl _ _).drew none) (by simp) (by simp)
   have HG0 : Hid (Blk W0 w.heap.size 27 #[.slice g.sa n g.sc, .slice g.pa g.prods.length g.pc, .int .i64 g.start, .slice g.fa g.forbid.length g.fc, .slice g.wa g.follow.length g.wc]) := Lib.hid (by rw [hW0]; exact HG6.out)
   have hNX1 := hNX0.below (World.grownBy_alloc W0 (.cells #[.int .i64 (t : Int)] 3) none)
   have hown1 := hNX1.own k v rr hv hrr
   obtain ⟨va, vc, rfl, _, _⟩ := own_slice hown1
   have hsz0 : N ≤ W0.heap.size := hNX0.hx.2.2
   obtain ⟨g5, cap5, w7, hrun7, hown7, hgr7, hg7, hlt7⟩ := run_append_lies (P := Tryz.prog) (w := W0.alloc (.cells #[.int .i64 (t : Int)] 3)) 48 48 N 3 i3 _ 1 8 Tryz.underlying48 ti3 tz3 ts3 tb3 rfl (by omega) _ rr.length (cellsL intC rr) hown1 ⟨W0.heap.size, 0, none⟩ 1 1 [.int .i64 (t : Int)] rfl (cells_new W0 #[.int .i64 (t : Int)] 3) (fun u hu => by simp at hu; subst hu; rfl) (by omega) (by unfold maxLen; omega) (by omega) (by simp; omega) _ rfl
   have hgb : ∀ g', (Value.slice (some ⟨g5, 0, none⟩) (rr.length + 1) cap5).ownBlock = some g' → (Value.slice va rr.length vc).ownBlock = some g' ∨ (W0.alloc (.cells #[.int .i64 (t : Int)] 3)).heap.size ≤ g' := fun g' hg' => by
    have e : g5 = g' := by simpa [Value.ownBlock] using hg'
    subst e
    rcases hg7 with h | h
    ·exact .inl h
    ·exact .inr (by omega)
   have hNX8 := hNX1.put hv hrr (t := (t : Int)) (by rw [cellsL_snoc]; exact hown7) hgr7 hgb
   have hvne : ∀ B', B' < N → some B' ≠ (Value.slice va rr.length vc).ownBlock := fun B' hB' e => by
    have := own_lt hown1 e.symm
    omega
   have hpbN : N ≤ w5.heap.size := hNX5.hx.2.2
   have hvx : ∀ B' (cs : Array Value), Blk W0 B' 115 cs → some B' ≠ (Value.slice va rr.length vc).ownBlock := fun B' cs hb' e => by
    rcases (hNX0.own k _ rr hv hrr).2 with ⟨h, _⟩ | ⟨g', cap', cur', h, _, h2, _⟩
    ·rw [h] at e; cases e
    ·rw [h] at e
     have e2 : B' = g' := by simpa [Value.ownBlock] using e
     subst e2
     have h3 : W0.heap[B']? = some (.cells cs 115 (0, 0)) := hb'
     rw [h2] at h3
     cases h3
   have hrg8 : RangeL (w7.setCell ⟨w.heap.size + 1, k, none⟩ (.slice (some ⟨g5, 0, none⟩) (rr.length + 1) cap5)) b r nn K (fun t_1 => Lf t_1 ∧ ¬t_1 = ((k : Int), (t : Int))) cnt5 :=
    (((hrg0.alloc _).kept hgr7 (hvne b hx.1) (hvne r hx.2.1))).kept (grown_set w7 (w.heap.size + 1) k _) (by simp; omega) (by simp; omega)
   have HG8 : Hid (Blk (w7.setCell ⟨w.heap.size + 1, k, none⟩ (.slice (some ⟨g5, 0, none⟩) (rr.length + 1) cap5)) w.heap.size 27 #[.slice g.sa n g.sc, .slice g.pa g.prods.length g.pc, .int .i64 g.start, .slice g.fa g.forbid.length g.fc, .slice g.wa g.follow.length g.wc]) := Lib.hid (((HG0.out.alloc _).kept hgr7 (hvne _ (by have := hNX0.hx; omega))).other (by show w.heap.size ≠ w.heap.size + 1; omega) _)
   have HL : Hid (∀ W, (∃ s, s < 3 ∧ W = four W0 (W0.alloc (.cells #[.int .i64 (t : Int)] 3)) w7 (w7.setCell ⟨w.heap.size + 1, k, none⟩ (.slice (some ⟨g5, 0, none⟩) (rr.length + 1) cap5)) s) → W.cell? ⟨w5.heap.size, 0, none⟩ = some (.int .i64 (k : Int)) ∧ W.cell? ⟨w5.heap.size, 0 + 1, none⟩ = some (.int .i64 (t : Int)) ∧ W.cell? ⟨w.heap.size + 1, k, none⟩ = some (.slice va rr.length vc)) := Lib.hid fun W hW => by
    have h3 : ∀ V, Blk V w5.heap.size 115 #[.int .i64 (k : Int), .int .i64 (t : Int)] → Blk V (w.heap.size + 1) 48 vals.toArray → V.cell? ⟨w5.heap.size, 0, none⟩ = some (.int .i64 (k : Int)) ∧ V.cell? ⟨w5.heap.size, 0 + 1, none⟩ = some (.int .i64 (t : Int)) ∧ V.cell? ⟨w.heap.size + 1, k, none⟩ = some (.slice va rr.length vc) := fun V h1 h2 => ⟨h1.cell 0, h1.cell 1, by rw [h2.cell, List.getElem?_toArray]; exact hv⟩
    have hx0 := hNX0.hx
    rcases four_lt hW with rfl | rfl | rfl
    ·exact h3 _ hbx0 hNX0.blk
    ·exact h3 _ (hbx0.alloc _) hNX1.blk
    ·exact h3 _ ((hbx0.alloc _).kept hgr7 (hvx _ _ hbx0)) (hNX1.blk.kept hgr7 (hvne _ hx0.2.1))
   have h7c : w7.cell? ⟨w.heap.size + 1, k, none⟩ = some (.slice va rr.length vc) := (HL.out w7 ⟨2, by omega, rfl⟩).2.2
   have h7l : w.heap.size + 1 < w7.heap.size := by have := (hNX1.blk.kept hgr7 (hvne _ hNX0.hx.2.1)).lt; exact this
   have h7f : w7.frozen? ⟨w.heap.size + 1, k, none⟩ = false := (hNX1.blk.kept hgr7 (hvne _ hNX0.hx.2.1)).frozen _
   have HZ : Hid (CR w N (w.heap.size + 1) n nn b r K (fun t_1 => Lf t_1 ∧ ¬t_1 = ((k : Int), (t : Int))) cnt5 (vals.set k (.slice (some ⟨g5, 0, none⟩) (rr.length + 1) cap5)) (rows.set k (rr ++ [(t : Int)])) (w7.setCell ⟨w.heap.size + 1, k, none⟩ (.slice (some ⟨g5, 0, none⟩) (rr.length + 1) cap5))) := Lib.hid ⟨hrg8, hNX8, hx, fun k' t' => by
     have hm := KC.out.mem k' t'
     have hkr := (List.getElem?_eq_some_iff.1 hrr).1
     by_cases e : k = k'
     ·subst e
      rw [List.getElem?_set_self hkr]
      constructor
      ·rintro ⟨rr', h1, h2⟩
       cases h1
       rcases List.mem_append.1 h2 with h2 | h2
       ·obtain ⟨h3, h4⟩ := hm.1 ⟨rr, hrr, h2⟩
        exact ⟨h3, fun h => h4 h.1⟩
       ·simp at h2; subst h2
        exact ⟨hKp, fun h => h.2 rfl⟩
      ·rintro ⟨h1, h2⟩
       refine ⟨_, rfl, List.mem_append.2 ?_⟩
       by_cases e2 : t' = (t : Int)
       ·exact .inr (by simp [e2])
       ·obtain ⟨r2, h3, h4⟩ := hm.2 ⟨h1, fun h => h2 ⟨h, fun e3 => e2 (by simpa using e3)⟩⟩
        rw [hrr] at h3; cases h3
        exact .inl h4
     ·rw [List.getElem?_set_ne e, hm]
      constructor
      ·rintro ⟨h1, h2⟩; exact ⟨h1, fun h => h2 h.1⟩
      ·rintro ⟨h1, h2⟩; exact ⟨h1, fun h => h2 ⟨h, fun e3 => e (by have := congrArg Prod.fst e3; simp at this; omega)⟩⟩,
    fun r' hr' => by
     rcases List.mem_or_eq_of_mem_set hr' with h | rfl
     ·have := KC.out.len r' h; omega
     ·rw [List.length_append]; simp; omega,
    fun p hp => KC.out.sub p hp.1⟩
   have HMe : Hid ((w7.setCell ⟨w.heap.size + 1, k, none⟩ (.slice (some ⟨g5, 0, none⟩) (rr.length + 1) cap5)).rangeLeft b r = cnt5 ∧ wr.rangeLeft b r = cnt) := Lib.hid ⟨hrg8.left_eq, KC.out.rg.left_eq⟩
   have HW0 := Lib.hid hW0
   have hs5' := hs5
   unfold leadV at hen5
   dsimp only at hen5
   clear hNX5 hNX6 hbx hrg6 HG6 hNX0 hbx0 hrg0 HG0 hNX1 hown1 hown7 hgr7 hg7 hgb hNX8 hvne hvx hrg8 hv hrr hrl hW0 KC KG hsz0 hrg5 hLp hKp hg5 hpbN hlt7
   go_upto_region 5 with (fail)
   rw [← hs5']
   refine wp_region_chain [10, 11, 13] 13 (four W0 (W0.alloc (.cells #[.int .i64 (t : Int)] 3)) w7 (w7.setCell ⟨w.heap.size + 1, k, none⟩ (.slice (some ⟨g5, 0, none⟩) (rr.length + 1) cap5)))
    [.slice (some ⟨w.heap.size + 1, 0, none⟩) n n, .pointer (some ⟨w5.heap.size, 0, none⟩), .int .i64 (k : Int), .slice (some ⟨w.heap.size + 1, 0, none⟩) n n, .pointer (some ⟨w5.heap.size, 0, none⟩), .int .i64 (k : Int), .pointer (some ⟨w.heap.size + 1, k, none⟩), .slice va rr.length vc, .pointer (some ⟨w5.heap.size, 0 + 1, none⟩), .int .i64 (t : Int), .slice (some ⟨W0.heap.size, 0, none⟩) 1 1, .slice (some ⟨g5, 0, none⟩) (rr.length + 1) cap5, .pointer (some ⟨w.heap.size + 1, k, none⟩), undef]
    #[.agg #[.slice g.sa n g.sc, .slice g.pa g.prods.length g.pc, .int .i64 g.start, .slice g.fa g.forbid.length g.fc, .slice g.wa g.follow.length g.wc], .pointer (some ⟨w.heap.size, 0, none⟩), .slice none 0 0, .slice (some ⟨w.heap.size + 1, 0, none⟩) n n, .pointer (some ⟨w5.heap.size, 0, none⟩), undef, undef, .pointer (some ⟨w.heap.size, 0, none⟩), .slice g.sa n g.sc, .int .i64 n, .slice (some ⟨w.heap.size + 1, 0, none⟩) n n,
     .agg #[.slice g.sa n g.sc, .slice g.pa g.prods.length g.pc, .int .i64 g.start, .slice g.fa g.forbid.length g.fc, .slice g.wa g.follow.length g.wc], .map (some b), .pointer (some ⟨r, 0, none⟩), .tuple #[.bool true, leadV ((k : Int), (t : Int)), .agg #[]], .bool true, .tuple #[.agg #[.int .i64 (k : Int), .int .i64 (t : Int)], .agg #[]], .agg #[.int .i64 (k : Int), .int .i64 (t : Int)],
     .slice (some ⟨w.heap.size + 1, 0, none⟩) n n, .pointer (some ⟨w5.heap.size, 0, none⟩), .int .i64 (k : Int), .slice (some ⟨w.heap.size + 1, 0, none⟩) n n, .pointer (some ⟨w5.heap.size, 0, none⟩), .int .i64 (k : Int), .pointer (some ⟨w.heap.size + 1, k, none⟩), .slice va rr.length vc, .pointer (some ⟨w5.heap.size, 0 + 1, none⟩), .int .i64 (t : Int), .slice (some ⟨W0.heap.size, 0, none⟩) 1 1, .slice (some ⟨g5, 0, none⟩) (rr.length + 1) cap5, .pointer (some ⟨w.heap.size + 1, k, none⟩),
     undef, undef, undef, undef, undef, undef, undef, undef, undef, undef, undef, undef, undef, undef, undef, undef, undef]
    rfl (by kernel_rfl) (by kernel_rfl) (by kernel_rfl) (by kernel_rfl) (by kernel_rfl) (by kernel_rfl) HW0.out ?_ ?_ _ rfl ?_
   ·exact ⟨⟨_, rfl, Turns.val (.slice (some ⟨W0.heap.size, 0, none⟩) 1 1) (by kernel_rfl) (by kernel_rfl) rfl (by kernel_rfl) (bs48 rfl (by kernel_rfl))⟩, ⟨⟨_, rfl, Turns.val (.slice (some ⟨g5, 0, none⟩) (rr.length + 1) cap5) (by kernel_rfl) (by kernel_rfl) rfl (by kernel_rfl) (ap_of rfl (by kernel_rfl) (by kernel_rfl) hrun7)⟩, ⟨⟨_, rfl, Turns.skip (by kernel_rfl) (by kernel_rfl) rfl (st48 rfl (by kernel_rfl) (by kernel_rfl) h7c h7f h7l)⟩, trivial⟩⟩⟩
   ·refine EachS.one (Each.val 18 (.slice (some ⟨w.heap.size + 1, 0, none⟩) n n) (by kernel_rfl) (by kernel_rfl) (by kernel_rfl) (fun _ => rfl) (fun _ _ _ => by kernel_rfl) trivial) ?_
    refine EachS.one (Each.val 19 (.pointer (some ⟨w5.heap.size, 0, none⟩)) (by kernel_rfl) (by kernel_rfl) (by kernel_rfl) (fun _ => rfl) (fun W hS _ => fa115_0 rfl (by kernel_rfl)) trivial) ?_
    refine EachS.one (Each.val 20 (.int .i64 (k : Int)) (by kernel_rfl) (by kernel_rfl) (by kernel_rfl) (fun _ => rfl) (fun W hS _ => ld3 rfl (by kernel_rfl) (HL.out W hS).1) trivial) ?_
    refine EachS.one (Each.val 21 (.slice (some ⟨w.heap.size + 1, 0, none⟩) n n) (by kernel_rfl) (by kernel_rfl) (by kernel_rfl) (fun _ => rfl) (fun _ _ _ => by kernel_rfl) trivial) ?_
    refine EachS.one (Each.val 22 (.pointer (some ⟨w5.heap.size, 0, none⟩)) (by kernel_rfl) (by kernel_rfl) (by kernel_rfl) (fun _ => rfl) (fun W hS _ => fa115_0 rfl (by kernel_rfl)) trivial) ?_
    refine EachS.one (Each.val 23 (.int .i64 (k : Int)) (by kernel_rfl) (by kernel_rfl) (by kernel_rfl) (fun _ => rfl) (fun W hS _ => ld3 rfl (by kernel_rfl) (HL.out W hS).1) trivial) ?_
    refine EachS.one (Each.val 24 (.pointer (some ⟨w.heap.size + 1, k, none⟩)) (by kernel_rfl) (by kernel_rfl) (by kernel_rfl) (fun _ => rfl) (fun W hS _ => ix111 (c := n) rfl (by kernel_rfl) (by kernel_rfl) hk (Nat.zero_add k)) trivial) ?_
    refine EachS.one (Each.val 25 (.slice va rr.length vc) (by kernel_rfl) (by kernel_rfl) (by kernel_rfl) (fun _ => rfl) (fun W hS _ => ld48 rfl (by kernel_rfl) (HL.out W hS).2.2) trivial) ?_
    refine EachS.one (Each.val 26 (.pointer (some ⟨w5.heap.size, 0 + 1, none⟩)) (by kernel_rfl) (by kernel_rfl) (by kernel_rfl) (fun _ => rfl) (fun W hS _ => fa115_1 rfl (by kernel_rfl)) trivial) ?_
    refine EachS.one (Each.val 27 (.int .i64 (t : Int)) (by kernel_rfl) (by kernel_rfl) (by kernel_rfl) (fun _ => rfl) (fun W hS _ => ld3 rfl (by kernel_rfl) (HL.out W hS).2.1) trivial) ?_
    refine EachS.skip (by decide) ?_
    refine EachS.skip (by decide) ?_
    refine EachS.one (Each.val 30 (.pointer (some ⟨w.heap.size + 1, k, none⟩)) (by kernel_rfl) (by kernel_rfl) (by kernel_rfl) (fun _ => rfl) (fun W hS _ => ix111 (c := n) rfl (by kernel_rfl) (by kernel_rfl) hk (Nat.zero_add k)) trivial) ?_
    refine EachS.skip (by decide) ?_
    exact trivial
   ·go_wp2
    go_roundw
    case rel => exact ⟨_, cnt5, _, _, HZ, HG8⟩
    case measure => exact Nat.lt_of_le_of_lt (Nat.le_of_eq HMe.out.1) (by rw [HMe.out.2]; exact hlt5)
end Go.Proofs.YtodnlcbnbkkanaaGreatDoor
end
section
namespace Go.Proofs.YtodnlcbnbkkanaaGreatDoor
open Go Go.RowKit

def GrowAt (B b : Nat) (p : Value) (l : List UInt8) (w : World) : Prop :=
 B ≤ b ∧ ∃ v, Blk w b 161 #[p, v] ∧ w.ownsRow B 5 1 v l.length (Lib.byteCells l) ∧ v.ownBlock ≠ some b ∧ (v = .slice none 0 0 ↔ l = [])
def selfP (b : Nat) : Value := .pointer (some ⟨b, 0, none⟩)

set_option maxHeartbeats 1000000 in
set_option maxRecDepth 100000 in
theorem copyCheck_used (b : Nat) (w : World) (h0 : w.cell? ⟨b, 0, none⟩ = some (.pointer (some ⟨b, 0, none⟩))) :
  Calls Tryz.prog 143 #[.pointer (some ⟨b, 0, none⟩)] w fun e w' => e = .returned (.tuple #[]) ∧ w = w' := by
 obtain ⟨j, hj, _⟩ := Option.map_eq_some_iff.1 (show (Tryz.prog.info? 161).map (·.size) = some 2 by kernel_rfl)
 go_enter Tryz.func143, Tryz.ntmps143
 go_wp2
 rw [Lib.run_neq_ptr_same w _ Tryz.underlying159 hj]
 go_wp2
 go_end0
 exact ⟨rfl, rfl⟩

set_option maxHeartbeats 1000000 in
set_option maxRecDepth 100000 in
theorem copyCheck_fresh (b : Nat) (w : World) (h0 : w.cell? ⟨b, 0, none⟩ = some (.pointer none)) (hsh : w.shape? b = some (161, 2)) (hfz : w.frozen? ⟨b, 0, none⟩ = false) :
  Calls Tryz.prog 143 #[.pointer (some ⟨b, 0, none⟩)] w fun e w' => e = .returned (.tuple #[]) ∧ w' = w.setCell ⟨b, 0, none⟩ (.pointer (some ⟨b, 0, none⟩)) := by
 obtain ⟨j, hj, hjs⟩ := Option.map_eq_some_iff.1 (show (Tryz.prog.info? 161).map (·.size) = some 2 by kernel_rfl)
 go_enter Tryz.func143, Tryz.ntmps143
 go_wp2
 rw [Lib.run_to_unsafe w ⟨b, 0, none⟩ Tryz.underlying159 Tryz.underlying213 hj (by rw [hjs]; decide) hsh (Nat.zero_lt_succ 1)]
 simp only [Result.andThen]
 rw [Oper.upon_value]
 go_wp2
 rw [run_callFunc_extern Tryz.func162 (by kernel_rfl) (by kernel_rfl) (by kernel_rfl) (e := Extern.AbiNoEscape.same) (by kernel_rfl)]
 rw [Lib.run_noEscape]
 simp only [Result.andThen]
 rw [Oper.upon_value]
 go_wp2
 rw [Lib.run_from_unsafe w ⟨b, 0, none⟩ Tryz.underlying213 Tryz.underlying159 hj hsh (by kernel_rfl)]
 simp only [Result.andThen]
 rw [Oper.upon_value]
 go_wp2
 go_end0
 exact ⟨rfl, rfl⟩

theorem GrowAt.shape {B b : Nat} {p : Value} {l : List UInt8} {w : World} (h : GrowAt B b p l w) : w.shape? b = some (161, 2) := by
 obtain ⟨_, v, hb, _⟩ := h
 unfold World.shape?
 simp only [show w.heap[b]? = _ from hb]
 rfl
theorem grownBy_setI (W : World) (b i : Nat) (v : Value) : W.grownBy (W.setCell ⟨b, i, none⟩ v) (some b) := grown_set W b i v
theorem ownsRow_other {w : World} {B e size n b : Nat} {v : Value} {xs : List Value} (h : w.ownsRow B e size v n xs) (hne : v.ownBlock ≠ some b) (i : Nat) (u : Value) : (w.setCell ⟨b, i, none⟩ u).ownsRow B e size v n xs :=
 h.kept (grownBy_setI w b i u) (by right; exact hne)

def KeptT (b : Nat) (w w' : World) : Prop := ∀ k t cs, k ≠ b → t ≠ 5 → Blk w k t cs → Blk w' k t cs
theorem copyCheck_any (B b : Nat) (p : Value) (hp : p = .pointer none ∨ p = selfP b) (l : List UInt8) (w : World) (h : GrowAt B b p l w) :
  Calls Tryz.prog 143 #[.pointer (some ⟨b, 0, none⟩)] w fun e w' => e = .returned (.tuple #[]) ∧ GrowAt B b (selfP b) l w' ∧ Below B w w' ∧ KeptT b w w' := by
 have hsh := h.shape
 obtain ⟨hBb, v, hb, hown, hne, hnil⟩ := h
 rcases hp with rfl | rfl
 ·refine (copyCheck_fresh b w (hb.cell 0) hsh (hb.frozen 0)).mono ?_
  rintro e w' ⟨rfl, rfl⟩
  exact ⟨rfl, ⟨hBb, v, hb.set 0 _, ownsRow_other hown hne 0 _, hne, hnil⟩, (Below.refl B w).setCell (p := ⟨b, 0, none⟩) hBb _, fun k t cs hk _ h => h.other (a := ⟨b, 0, none⟩) hk _⟩
 ·refine (copyCheck_used b w (hb.cell 0)).mono ?_
  rintro e w' ⟨rfl, rfl⟩
  exact ⟨rfl, ⟨hBb, v, hb, hown, hne, hnil⟩, Below.refl _ _, fun k t cs _ _ h => h⟩

theorem infoByte : (Tryz.prog.info? 5).map (fun i => (i.zero, i.size, i.bytes)) = some (some (.int .u8 0), 1, 1) := by kernel_rfl

set_option maxHeartbeats 2000000 in
set_option maxRecDepth 100000 in
theorem write_any (B b : Nat) (p : Value) (hp : p = .pointer none ∨ p = selfP b) (l : List UInt8) (s : ByteArray) (w : World) (h : GrowAt B b p l w) (hlen : l.length + s.size ≤ 140737488355328) (hBw : B ≤ w.heap.size) :
  Calls Tryz.prog 117 #[.pointer (some ⟨b, 0, none⟩), .string s] w fun e w' => e = .returned (.tuple #[.int .i64 s.size, .nilIface]) ∧ GrowAt B b (selfP b) (l ++ s.data.toList) w' ∧ Below B w w' ∧ KeptT b w w' := by
 obtain ⟨i0, hi, hz0, hz1, hz2⟩ := info_parts infoByte
 have HC := Lib.hid (copyCheck_any B b p hp l w h)
 clear h hp
 go_enter Tryz.func117, Tryz.ntmps117
 go_wp2_with fail
 refine HC.out.mono ?_
 rintro e w1 ⟨rfl, ⟨hBb, v, hb, hown, hne, hnil⟩, hb1, hk1⟩
 have Hk1 := Lib.hid hk1
 clear hk1
 have c0 : w1.cell? ⟨b, 0, none⟩ = some (.pointer (some ⟨b, 0, none⟩)) := hb.cell 0
 have c1 : w1.cell? ⟨b, 1, none⟩ = some v := hb.cell 1
 have Hnil := Lib.hid hnil
 clear hnil
 go_wp2_with (at_builtin; refine Lib.wpList_append_own_string _ rfl _ _ 57 9 rfl B 5 i0 Tryz.underlying57 Tryz.underlying9 hi hz0 hz1 hz2 _ _ _ rfl hown s rfl ?c3 ?c4 ?c5 ?_)
 case c3 => unfold maxLen; omega
 case c4 => omega
 case c5 => have := hb1.size; omega
 intro v' w2 hown' hgrow hn2
 have hb2 : Blk w2 b 161 #[selfP b, v] := hb.kept hgrow (fun e => hne e.symm)
 have d0 : w2.cell? ⟨b, 0, none⟩ = some (.pointer (some ⟨b, 0, none⟩)) := hb2.cell 0
 have d1 : w2.cell? ⟨b, 1, none⟩ = some v := hb2.cell 1
 have f1 : w2.frozen? ⟨b, 1, none⟩ = false := hb2.frozen 1
 have Hn2 := Lib.hid hn2
 clear hn2
 obtain ⟨ao, n', cap, rfl⟩ : ∃ ao n' cap, v' = .slice ao n' cap := by
  rcases hown'.2 with ⟨hv, _⟩ | ⟨g, cap, cur, hv, _⟩
  ·exact ⟨_, _, _, hv⟩
  ·exact ⟨_, _, _, hv⟩
 have hne' : (Value.slice ao n' cap).ownBlock ≠ some b := by
  intro e
  obtain ⟨_, ⟨hv, _⟩ | ⟨g, cap', cur, hv, _, hg, _⟩⟩ := hown'
  ·cases hv; simp [Value.ownBlock] at e
  ·cases hv
   simp [Value.ownBlock] at e
   subst e
   rw [show w2.heap[g]? = _ from hb2] at hg
   cases hg
 go_wp2
 go_ret2
 refine ⟨rfl, ⟨hBb, _, hb2.set 1 _, ?_, hne', ?_⟩, ?_, ?_⟩
 ·have : w2.ownsRow B 5 1 (.slice ao n' cap) (l ++ s.data.toList).length (Lib.byteCells (l ++ s.data.toList)) := by
   have e1 : (l ++ s.data.toList).length = l.length + s.size := by simp
   rw [e1, Lib.byteCells_append, ← Lib.strCells_eq]; exact hown'
  exact ownsRow_other this hne' 1 _
 ·rw [Hn2.out, Hnil.out]
  constructor
  ·rintro ⟨rfl, h0⟩
   have : s.data.toList.length = 0 := by simpa using h0
   rw [List.length_eq_zero_iff.1 this]; rfl
  ·intro h0
   obtain ⟨h1, h2⟩ := List.append_eq_nil_iff.1 h0
   refine ⟨h1, ?_⟩
   have : s.data.toList.length = 0 := by rw [h2]; rfl
   simpa using this
 ·exact (hb1.grown hgrow (by have := hb1.size; omega) (fun k hk => (hown.lt k hk).1)).setCell (p := ⟨b, 1, none⟩) hBb _
 ·intro k t cs hk ht h
  have h1 := Hk1.out k t cs hk ht h
  refine Blk.other (h1.kept hgrow ?_) (a := ⟨b, 1, none⟩) hk _
  intro e
  rcases hown.2 with ⟨hv, _⟩ | ⟨g, cap', cur, hv, _, hg, _⟩
  ·rw [hv] at e; cases e
  ·rw [hv] at e
   obtain rfl : k = g := by simpa [Value.ownBlock] using e
   rw [show w1.heap[k]? = _ from h1] at hg
   cases hg
   exact ht rfl

set_option maxHeartbeats 1000000 in
set_option maxRecDepth 100000 in
theorem bstring_any (B b : Nat) (p : Value) (l : List UInt8) (w : World) (h : GrowAt B b p l w) :
  Calls Tryz.prog 118 #[.pointer (some ⟨b, 0, none⟩)] w fun e w' => e = .returned (.string ⟨l.toArray⟩) ∧ Below B w w' := by
 obtain ⟨hBb, v, hb, hown, hne, hnil⟩ := h
 by_cases h0 : l = []
 ·have hv := hnil.2 h0
  subst h0 hv
  have hUS : ∀ W : World, (Builtin.unsafeString_ #[196, 3] 9 #[.pointer none, .int .i64 0]).run Tryz.prog W = .ok (.string .empty) W := fun W => by kernel_rfl
  have c1 : w.drew.cell? ⟨b, 1, none⟩ = some (.slice none 0 0) := hb.cell 1
  have hSD : (Builtin.unsafeSliceData_ #[57] 196 #[.slice none 0 0]).run Tryz.prog w.drew = .ok (.pointer none) w.drew := rfl
  clear hown hne hnil
  go_enter Tryz.func118, Tryz.ntmps118
  go_wp2
  go_region
  all_goals (go_wp2; go_ret; exact ⟨rfl, (Below.refl _ _).drew⟩)
 ·have hl0 : l.length ≠ 0 := by simpa using h0
  obtain ⟨g, cap, cur, rfl, hbg, hg, hnc, hcm, hcs, htake⟩ : ∃ g cap cur, v = .slice (some ⟨g, 0, none⟩) l.length cap ∧ B ≤ g ∧ w.heap[g]? = some (.cells cur 5 (0, 0)) ∧ l.length ≤ cap ∧ cap ≤ maxLen ∧ cur.size = cap * 1 ∧ cur.toList.take (l.length * 1) = Lib.byteCells l := by
   rcases hown.2 with ⟨_, hz⟩ | ⟨g, cap, cur, hv, r⟩
   ·exact absurd hz hl0
   ·exact ⟨g, cap, cur, hv, r⟩
  have c1 : w.drew.cell? ⟨b, 1, none⟩ = some (.slice (some ⟨g, 0, none⟩) l.length cap) := hb.cell 1
  have hSD : (Builtin.unsafeSliceData_ #[57] 196 #[.slice (some ⟨g, 0, none⟩) l.length cap]).run Tryz.prog w.drew = .ok (.pointer (some ⟨g, 0, none⟩)) w.drew :=
   Lib.run_unsafeSliceData_row _ _ _ _ _ _ (by omega)
  have hUS : (Builtin.unsafeString_ #[196, 3] 9 #[.pointer (some ⟨g, 0, none⟩), .int .i64 l.length]).run Tryz.prog w.drew = .ok (.string ⟨l.toArray⟩) (w.drew.freeze ⟨g, 0, none⟩ l.length) := by
   refine Lib.run_unsafeString_row w.drew 196 3 9 5 Tryz.underlying196 (by kernel_rfl) g cur.size (by have hg' : w.drew.heap[g]? = some (.cells cur 5 (0, 0)) := hg; simp [World.shape?, hg']) l h0 (by omega) (by unfold maxLen at hcm; omega) ?_
   intro j x hx
   have := hown.cells (g := g) rfl j (.int .u8 x.toNat) (by simp [Lib.byteCells, hx])
   exact this
  clear hown hne hnil hg htake
  go_enter Tryz.func118, Tryz.ntmps118
  go_wp2
  go_region
  all_goals (go_wp2; go_ret; exact ⟨rfl, Lib.below_freeze (Below.drew (Below.refl B w)) (p := ⟨g, 0, none⟩) hbg _⟩)
end Go.Proofs.YtodnlcbnbkkanaaGreatDoor
end
section
namespace Go.Proofs.YtodnlcbnbkkanaaGreatDoor
open Go Go.RowKit

def bs (l : List UInt8) : ByteArray := ⟨l.toArray⟩
theorem bs_size (l : List UInt8) : (bs l).size = l.length := by unfold bs; simp [ByteArray.size]
theorem bs_list (l : List UInt8) : (bs l).data.toList = l := by unfold bs; simp
def Leaf (W : World) (b : Nat) (t : List UInt8) : Prop := Blk W b 192 #[.int .i64 t.length, .string (bs t), .slice none 0 0]
def RopeAt : Nat → World → Nat → List UInt8 → Prop
 | 0, W, b, t => Leaf W b t
 | d + 1, W, b, t => Leaf W b t ∨ (4096 < t.length ∧ ∃ (g c : Nat) (ps : List (Nat × List UInt8)), 2 ≤ ps.length ∧ t = (ps.map (·.2)).flatten ∧ Blk W b 192 #[.int .i64 t.length, .string (bs []), .slice (some ⟨g, 0, none⟩) ps.length c] ∧ g < W.heap.size ∧
   ∀ (i : Nat) (p : Nat × List UInt8), ps[i]? = some p → W.cell? ⟨g, i, none⟩ = some (.pointer (some ⟨p.1, 0, none⟩)) ∧ p.2 ≠ [] ∧ RopeAt d W p.1 p.2)
def TxtAt (W : World) (b : Nat) (t : List UInt8) : Prop := ∃ d, RopeAt d W b t
theorem Leaf.below {W V : World} {b : Nat} {t : List UInt8} (h : Leaf W b t) (hB : Below W.heap.size W V) : Leaf V b t := Blk.below h hB (Blk.lt h)
theorem TxtAt.leaf {W : World} {b : Nat} {t : List UInt8} (h : TxtAt W b t) (ht : t.length ≤ 4096) : Leaf W b t := by
 obtain ⟨d, h⟩ := h
 cases d with
 | zero => exact h
 | succ d =>
  rcases h with h | ⟨h, _⟩
  ·exact h
  ·omega
theorem Leaf.txt {W : World} {b : Nat} {t : List UInt8} (h : Leaf W b t) : TxtAt W b t := ⟨0, h⟩
theorem Leaf.kept {W V : World} {b : Nat} {t : List UInt8} {q : Option Nat} (h : Leaf W b t) (hg : W.grownBy V q) (hne : some b ≠ q) : Leaf V b t := Blk.kept h hg hne

set_option maxRecDepth 100000 in
set_option maxHeartbeats 1000000 in
theorem whole_any (l : List UInt8) (w : World) (hl : l.length ≤ 9223372036854775807) :
  Calls Tryz.prog 140 #[.string (bs l)] w fun e w' => e = .returned (.pointer (some ⟨w.heap.size, 0, none⟩)) ∧ w' = w.alloc (.cells #[.int .i64 l.length, .string (bs l), .slice none 0 0] 192) := by
 have hs := bs_size l
 generalize bs l = s at *
 obtain ⟨n, hn⟩ : ∃ n, n = l.length := ⟨_, rfl⟩
 rw [← hn] at hs hl ⊢
 clear hn
 go_enter Tryz.func140, Tryz.ntmps140
 go_wp2
 go_ret
 exact ⟨rfl, rfl⟩

set_option maxRecDepth 100000 in
set_option maxHeartbeats 1000000 in
theorem isNaN_any (n : Int) (w : World) : Calls Tryz.prog 169 #[.int .i64 n] w fun e w' => e = .returned (.bool false) ∧ w = w' := by
 go_enter Tryz.func169, Tryz.ntmps169
 go_wp2
 go_ret
 exact ⟨rfl, rfl⟩
def cmpI (a b : Int) : Int := if a < b then -1 else if b < a then 1 else 0
set_option maxRecDepth 100000 in
set_option maxHeartbeats 2000000 in
theorem cmp_any (a b : Int) (w : World) : Calls Tryz.prog 156 #[.int .i64 a, .int .i64 b] w fun e w' => e = .returned (.int .i64 (cmpI a b)) ∧ w = w' := by
 unfold cmpI
 by_cases h1 : a < b
 ·rw [if_pos h1]
  go_enter Tryz.func156, Tryz.ntmps156
  go_wp2_with (go_at_call 169; refine (isNaN_any _ _).mono ?_; rintro e w' ⟨rfl, rfl⟩)
  go_ret
  exact ⟨rfl, rfl⟩
 ·rw [if_neg h1]
  have h1b : decide (a < b) = false := by simpa using h1
  by_cases h2 : b < a
  ·rw [if_pos h2]
   have h2b : decide (b < a) = true := by simpa using h2
   clear h1
   go_enter Tryz.func156, Tryz.ntmps156
   go_wp2_with (go_at_call 169; refine (isNaN_any _ _).mono ?_; rintro e w' ⟨rfl, rfl⟩)
   go_ret
   exact ⟨rfl, rfl⟩
  ·rw [if_neg h2]
   have h2b : decide (b < a) = false := by simpa using h2
   clear h1 h2
   go_enter Tryz.func156, Tryz.ntmps156
   go_wp2_with (go_at_call 169; refine (isNaN_any _ _).mono ?_; rintro e w' ⟨rfl, rfl⟩)
   go_ret
   exact ⟨rfl, rfl⟩
end Go.Proofs.YtodnlcbnbkkanaaGreatDoor
end
section
namespace Go.Proofs.YtodnlcbnbkkanaaGreatDoor
open Go Go.RowKit

set_option maxRecDepth 100000 in
set_option maxHeartbeats 1000000 in
theorem cmpstr_any (s t : ByteArray) (w : World) : Calls Tryz.prog 170 #[.string s, .string t] w fun e w' => e = .returned (.int .i64 (Lib.compareBytes s.data.toList t.data.toList)) ∧ w = w' := by
 go_enter Tryz.func170, Tryz.ntmps170
 go_wp2_with fail
 rw [run_callFunc_extern Tryz.func175 (by kernel_rfl) (by kernel_rfl) (by kernel_rfl) (e := Extern.BytealgCompare.compare) (by kernel_rfl)]
 rw [Lib.run_compareString]
 simp only [Result.andThen]
 rw [Oper.upon_value]
 go_wp2
 go_ret
 exact ⟨rfl, rfl⟩
set_option maxRecDepth 100000 in
set_option maxHeartbeats 1000000 in
theorem strcmp_any (s t : ByteArray) (w : World) : Calls Tryz.prog 157 #[.string s, .string t] w fun e w' => e = .returned (.int .i64 (Lib.compareBytes s.data.toList t.data.toList)) ∧ w = w' := by
 have HC := fun w => Lib.hid (cmpstr_any s t w)
 generalize Lib.compareBytes s.data.toList t.data.toList = c at *
 go_enter Tryz.func157, Tryz.ntmps157
 go_wp2_with fail
 refine (HC _).out.mono ?_
 rintro e w3 ⟨rfl, rfl⟩
 go_wp2
 go_ret
 exact ⟨rfl, rfl⟩

set_option maxRecDepth 100000 in
set_option maxHeartbeats 2000000 in
theorem next_nil (R : Nat) (a : Option Addr) (c : Nat) (w : World) (hr : Blk w R 162 #[.slice a 0 c]) :
  Calls Tryz.prog 116 #[.pointer (some ⟨R, 0, none⟩)] w fun e w' => e = .returned (.string ⟨#[]⟩) ∧ Below w.heap.size w w' := by
 have c0 := hr.cell 0
 have l0 := hr.lt
 clear hr
 have HB : Hid (Below w.heap.size w (w.alloc (.cells #[.pointer (some ⟨R, 0, none⟩)] 190))) := Lib.hid ((Below.refl _ _).alloc (Nat.le_refl _) _)
 go_enter Tryz.func116, Tryz.ntmps116
 go_wp2
 go_loopw [3] (fun _ wr => Hid (wr = w.alloc (.cells #[.pointer (some ⟨R, 0, none⟩)] 190))) (fun _ _ => 0)
 case atStart => exact Lib.hid rfl
 case round =>
  have e := hrel.out
  subst e
  go_wp2
  go_ret
  exact ⟨rfl, HB.out⟩
set_option maxRecDepth 100000 in
set_option maxHeartbeats 4000000 in
theorem next_one (R S c b : Nat) (t : List UInt8) (w : World) (hr : Blk w R 162 #[.slice (some ⟨S, 0, none⟩) 1 c]) (hs : w.cell? ⟨S, 0, none⟩ = some (.pointer (some ⟨b, 0, none⟩))) (hb : Leaf w b t) :
  Calls Tryz.prog 116 #[.pointer (some ⟨R, 0, none⟩)] w fun e w' => e = .returned (.string (bs t)) ∧ Blk w' R 162 #[.slice (some ⟨S, 0, none⟩) 0 c] ∧ w.grownBy w' (some R) := by
 have c0 := hr.cell 0
 have l0 := hr.lt
 have lS := lt_of_cell hs
 have lb := Blk.lt hb
 have b1 := Blk.cell hb 1
 have b2 := Blk.cell hb 2
 have hne : b ≠ R := fun e => by
  subst e
  have h1 : w.heap[b]? = some (.cells _ 192 (0, 0)) := hb
  have h2 : w.heap[b]? = some (.cells _ 162 (0, 0)) := hr
  rw [h1] at h2
  cases h2
 have HRe := Lib.hid hr
 have HLf := Lib.hid hb
 obtain ⟨s, hs'⟩ : ∃ s, s = bs t := ⟨_, rfl⟩
 rw [← hs'] at b1 ⊢
 have HSe := Lib.hid hs'
 have f0 := hr.frozen 0
 clear hr hb hs'
 go_enter Tryz.func116, Tryz.ntmps116
 go_wp2
 go_loopw [3] (fun _ wr => Hid (wr = w.alloc (.cells #[.pointer (some ⟨R, 0, none⟩)] 190))) (fun _ _ => 0)
 case atStart => exact Lib.hid rfl
 case round =>
  have e := hrel.out
  subst e
  go_wp2
  refine wp_region_still_tail 7 (by kernel_rfl) (by kernel_rfl) ?_
  show wpStill _ _ (World.drew (w.alloc (.cells #[.pointer (some ⟨R, 0, none⟩)] 190))) _ _ _
  obtain ⟨W, hW⟩ : ∃ W, W = World.drew (w.alloc (.cells #[.pointer (some ⟨R, 0, none⟩)] 190)) := ⟨_, rfl⟩
  have HW := Lib.hid hW
  rw [← hW]
  have hB1 : Below w.heap.size w W := by rw [hW]; exact ((Below.refl _ _).alloc (Nat.le_refl _) _).drew
  have kB : Blk W w.heap.size 190 #[.pointer (some ⟨R, 0, none⟩)] := by rw [hW]; exact Blk.new w 190 _
  have kR := HRe.out.below hB1 l0
  have HG : Hid (w.grownBy W (some R)) := Lib.hid (grown_of_below hB1 _)
  have d0 := kB.cell 0
  have d1 := kR.cell 0
  have lB := kB.lt
  have lR := kR.lt
  have fR := kR.frozen 0
  have HLW := Lib.hid (Blk.below (show Blk w b 192 _ from HLf.out) hB1 lb)
  have e1 := HLW.out.cell 1
  have e2 := HLW.out.cell 2
  have le := HLW.out.lt
  have HKR := Lib.hid kR
  clear hW hB1 kB kR c0 l0 f0 lS b1 b2 hs
  simp only [List.take_succ_cons, List.take_zero, List.drop_succ_cons, List.drop_zero]
  repeat still_step
  refine wpStill_nil ?_
  show wpList _ _ _ _ _ (World.drew (w.alloc (.cells #[.pointer (some ⟨R, 0, none⟩)] 190)))
  rw [← HW.out]
  clear HW
  have HN : Hid (Blk (W.setCell ⟨R, 0, none⟩ (.slice (some ⟨S, 0, none⟩) 0 c)) R 162 #[.slice (some ⟨S, 0, none⟩) 0 c]) := Lib.hid (by have h := HKR.out.set 0 (.slice (some ⟨S, 0, none⟩) 0 c); exact h)
  have HG2 : Hid (w.grownBy (W.setCell ⟨R, 0, none⟩ (.slice (some ⟨S, 0, none⟩) 0 c)) (some R)) := Lib.hid (grown_trans HG.out (grown_set W R 0 _))
  clear hrel
  go_wp2
  go_ret
  exact ⟨by rw [HSe.out]; rfl, HN.out, HG2.out⟩
theorem GrowAt.below {B b : Nat} {p : Value} {l : List UInt8} {w V : World} (h : GrowAt B b p l w) (hB : Below w.heap.size w V) : GrowAt B b p l V := by
 obtain ⟨h1, v, h2, h3, h4, h5⟩ := h
 exact ⟨h1, v, h2.below hB h2.lt, own_below h3 hB (Nat.le_refl _), h4, h5⟩
set_option maxRecDepth 100000 in
set_option maxHeartbeats 4000000 in
theorem string_leaf (b : Nat) (t : List UInt8) (w : World) (hb : Leaf w b t) (ht : t.length ≤ 1073741824) :
  Calls Tryz.prog 87 #[.pointer (some ⟨b, 0, none⟩)] w fun e w' => e = .returned (.string (bs t)) ∧ Below w.heap.size w w' := by
 have lb := Blk.lt hb
 have e1 := Blk.new w 161 #[.pointer none, .slice none 0 0]
 have e2 := Blk.new (w.alloc (.cells #[.pointer none, .slice none 0 0] 161)) 133 #[.pointer (some ⟨b, 0, none⟩)]
 have e3 := Blk.new ((w.alloc (.cells #[.pointer none, .slice none 0 0] 161)).alloc (.cells #[.pointer (some ⟨b, 0, none⟩)] 133)) 162 #[.slice (some ⟨w.heap.size + 1, 0, none⟩) 1 1]
 simp only [World.size_alloc] at e2 e3
 obtain ⟨W1, hW1⟩ : ∃ W1, W1 = ((w.alloc (.cells #[.pointer none, .slice none 0 0] 161)).alloc (.cells #[.pointer (some ⟨b, 0, none⟩)] 133)).alloc (.cells #[.slice (some ⟨w.heap.size + 1, 0, none⟩) 1 1] 162) := ⟨_, rfl⟩
 have hB1 : Below w.heap.size w W1 := by rw [hW1]; exact (((Below.refl _ w).alloc (Nat.le_refl _) _).alloc (by simp) _).alloc (by simp; omega) _
 have hR : Blk W1 (w.heap.size + 1 + 1) 162 #[.slice (some ⟨w.heap.size + 1, 0, none⟩) 1 1] := by rw [hW1]; exact e3
 have hS : W1.cell? ⟨w.heap.size + 1, 0, none⟩ = some (.pointer (some ⟨b, 0, none⟩)) := by rw [hW1]; exact (e2.alloc _).cell 0
 have hG : GrowAt w.heap.size w.heap.size (.pointer none) [] W1 := ⟨Nat.le_refl _, .slice none 0 0, by rw [hW1]; exact (e1.alloc _).alloc _, ⟨rfl, .inl ⟨rfl, rfl⟩⟩, by simp [Value.ownBlock], by simp⟩
 have HN := Lib.hid (next_one (w.heap.size + 1 + 1) (w.heap.size + 1) 1 b t W1 hR hS (Blk.below hb hB1 lb))
 have HW1 := Lib.hid hW1
 have HG := Lib.hid hG
 have HB1 := Lib.hid hB1
 clear hb e1 e2 e3 hW1 hB1 hR hS hG
 go_enter Tryz.func87, Tryz.ntmps87
 go_upto_region 3 with (fail)
 rw [← HW1.out]
 go_wp2_with fail
 refine HN.out.mono ?_
 rintro e w3 ⟨rfl, hR3, hg3⟩
 have HR3 := Lib.hid hR3
 have HB3 : Hid (Below w.heap.size w w3) := Lib.hid (below_grown HB1.out hg3 (Nat.le_refl _) (by omega))
 have HG3 : Hid (GrowAt w.heap.size w.heap.size (.pointer none) [] w3) := Lib.hid (by
  obtain ⟨h1, v, h2, h3, h4, h5⟩ := HG.out
  exact ⟨h1, v, h2.kept hg3 (by simp; omega), by rw [h5.2 rfl]; exact ⟨rfl, .inl ⟨rfl, rfl⟩⟩, h4, h5⟩)
 clear hR3 hg3 HN HG HB1 HW1
 have hle : t.length ≤ 140737488355328 := by omega
 obtain ⟨s, hs⟩ : ∃ s, s = bs t := ⟨_, rfl⟩
 have HS := Lib.hid hs
 rw [← hs]
 have hsz : s.size = t.length := by rw [hs, bs_size]
 have HSl : Hid (s.data.toList = t) := Lib.hid (by rw [hs, bs_list])
 have hne : t ≠ [] → ¬ s.toList = [] := fun h => by rw [ByteArray.toList_eq, hs, bs_list]; exact h
 have HNe := Lib.hid hne
 have HNil : Hid (t = [] → s = ⟨#[]⟩) := Lib.hid (fun h => by rw [hs, h]; rfl)
 have HSz := Lib.hid hsz
 clear hs hne hsz
 go_wp2
 go_loopg [5] 1 (fun gg v wr => ∃ (k : Nat), k ≤ gg ∧ ((k = 1 ∧ v = .string s ∧ Hid (t ≠ [] ∧ Blk wr (w.heap.size + 1 + 1) 162 #[.slice (some ⟨w.heap.size + 1, 0, none⟩) 0 1] ∧ GrowAt w.heap.size w.heap.size (.pointer none) [] wr ∧ Below w.heap.size w wr)) ∨ (v = .string ⟨#[]⟩ ∧ Hid (∃ p, GrowAt w.heap.size w.heap.size p t wr ∧ Below w.heap.size w wr))))
 case atStart =>
  by_cases h0 : t = []
  ·exact ⟨0, by omega, .inr ⟨by rw [HNil.out h0], Lib.hid ⟨_, by rw [h0]; exact HG3.out, HB3.out⟩⟩⟩
  ·exact ⟨1, by omega, .inl ⟨rfl, rfl, Lib.hid ⟨h0, HR3.out, HG3.out, HB3.out⟩⟩⟩
 case round =>
  clear HR3 HB3 HG3
  obtain ⟨k, hk, ⟨rfl, rfl, K⟩ | ⟨rfl, K⟩⟩ := hrel
  ·have hne := HNe.out K.out.1
   have hne2 : s.toList.isEmpty = false := by simpa using hne
   have HW := Lib.hid (write_any _ _ _ (.inl rfl) [] s wr K.out.2.2.1 (by have := HSz.out; simp; omega) K.out.2.2.2.size)
   have HBr := Lib.hid K.out.2.2.2
   have HRr := Lib.hid K.out.2.1
   clear K
   go_wp2_with fail
   refine HW.out.mono ?_
   rintro e w4 ⟨rfl, hG4, hB4, hK4⟩
   have HR4 := Lib.hid (hK4 _ 162 _ (by omega) (by decide) HRr.out)
   have HG4 : Hid (GrowAt w.heap.size w.heap.size (selfP w.heap.size) t w4) := Lib.hid (by rw [HSl.out, List.nil_append] at hG4; exact hG4)
   have HB4 := Lib.hid (HBr.out.trans hB4)
   clear hB4 hG4 hK4 HW
   have HN := Lib.hid (next_nil (w.heap.size + 1 + 1) _ _ w4 HR4.out)
   go_wp2_with fail
   refine HN.out.mono ?_
   rintro e w5 ⟨rfl, hB5⟩
   have HZ : Hid (∃ p, GrowAt w.heap.size w.heap.size p t w5 ∧ Below w.heap.size w w5) := Lib.hid ⟨_, HG4.out.below hB5, HB4.out.trans (hB5.mono HB4.out.size)⟩
   clear hB5 HN
   go_wp2
   go_roundg 0
   case rel => exact ⟨0, Nat.zero_le _, .inr ⟨rfl, HZ⟩⟩
   case measure => omega
  ·obtain ⟨p, hG, hB⟩ := K.out
   have HSt := Lib.hid (bstring_any _ _ _ _ _ hG)
   have HB := Lib.hid hB
   clear hG hB K
   go_wp2_with fail
   refine HSt.out.mono ?_
   rintro e w4 ⟨rfl, hB4⟩
   have HB4 := Lib.hid (HB.out.trans hB4)
   clear hB4 HSt
   go_wp2
   go_ret
   exact ⟨by rw [HS.out]; rfl, HB4.out⟩
end Go.Proofs.YtodnlcbnbkkanaaGreatDoor
end
section
namespace Go.Proofs.YtodnlcbnbkkanaaGreatDoor
open Go Go.RowKit

def cmpT (s t : List UInt8) : Int := if s.length = t.length then Lib.compareBytes s t else cmpI s.length t.length
theorem compareBytes_self (s : List UInt8) : Lib.compareBytes s s = 0 := by
 induction s with
 | nil => rfl
 | cons x r ih => rw [Lib.compareBytes, if_neg (UInt8.lt_irrefl x), if_neg (UInt8.lt_irrefl x), ih]
theorem Leaf.unique {W : World} {b : Nat} {s t : List UInt8} (h : Leaf W b s) (k : Leaf W b t) : s = t := by
 have h1 := Blk.cell h 1
 have h2 := Blk.cell k 1
 rw [h1] at h2
 have h3 : bs s = bs t := by simpa using h2
 rw [← bs_list s, ← bs_list t, h3]

set_option maxRecDepth 100000 in
set_option maxHeartbeats 4000000 in
theorem compare_same (a : Nat) (s : List UInt8) (w : World) (ha : Leaf w a s) : Calls Tryz.prog 137 #[.pointer (some ⟨a, 0, none⟩), .pointer (some ⟨a, 0, none⟩)] w fun e w' => e = .returned (.int .i64 0) ∧ Below w.heap.size w w' := by
 obtain ⟨j, hj, hjs⟩ := Option.map_eq_some_iff.1 (show (Tryz.prog.info? 192).map (·.size) = some 3 by kernel_rfl)
 have hp : ∀ W : World, (binOp .eql 133 (.pointer (some ⟨a, 0, none⟩)) (.pointer (some ⟨a, 0, none⟩))).run Tryz.prog W = .ok (.bool true) W := fun W => run_eql_ptr_same W _ Tryz.underlying133 hj
 have c0 := Blk.cell ha 0
 have lt := Blk.lt ha
 obtain ⟨n, hn⟩ : ∃ n, n = s.length := ⟨_, rfl⟩
 rw [← hn] at c0
 have HC := fun w => Lib.hid (cmp_any n n w)
 have he : cmpI (n : Int) (n : Int) = 0 := by unfold cmpI; rw [if_neg (Int.lt_irrefl _), if_neg (Int.lt_irrefl _)]
 rw [he] at HC
 clear ha hn he hj hjs
 go_enter Tryz.func137, Tryz.ntmps137
 go_wp2
 go_quiet (fail)
 go_wp2
 refine wp_region_still_tail 8 (by kernel_rfl) (by kernel_rfl) ?_
 show wpStill _ _ (World.drew (w.drewN _)) _ _ _
 obtain ⟨W, hW⟩ : ∃ W, W = World.drew (w.drewN nq) := ⟨_, rfl⟩
 have HW := Lib.hid hW
 rw [← hW]
 have hB1 : Below w.heap.size w W := by rw [hW]; exact (below_drewN (Below.refl _ _) _).drew
 have d0 : W.cell? ⟨a, 0, none⟩ = some (.int .i64 n) := (hB1.cell (p := ⟨a, 0, none⟩) lt).trans c0
 have dl : a < W.heap.size := Nat.lt_of_lt_of_le lt hB1.size
 have HB := Lib.hid hB1
 clear hW hB1 c0
 simp only [List.take_succ_cons, List.take_zero, List.drop_succ_cons, List.drop_zero]
 repeat still_step
 refine wpStill_nil ?_
 show wpList _ _ _ _ _ (World.drew (w.drewN _))
 rw [← HW.out]
 clear HW
 go_wp2_with fail
 refine (HC _).out.mono ?_
 rintro e w3 ⟨rfl, rfl⟩
 go_wp2
 go_ret
 exact ⟨rfl, HB.out⟩
set_option maxRecDepth 100000 in
set_option maxHeartbeats 4000000 in
theorem compare_size (a b : Nat) (s t : List UInt8) (w : World) (hab : a ≠ b) (ha : Leaf w a s) (hb : Leaf w b t) (hst : s.length ≠ t.length) : Calls Tryz.prog 137 #[.pointer (some ⟨a, 0, none⟩), .pointer (some ⟨b, 0, none⟩)] w fun e w' => e = .returned (.int .i64 (cmpI s.length t.length)) ∧ Below w.heap.size w w' := by
 obtain ⟨j, hj, hjs⟩ := Option.map_eq_some_iff.1 (show (Tryz.prog.info? 192).map (·.size) = some 3 by kernel_rfl)
 have hp : ∀ n : Nat, (binOp .eql 133 (.pointer (some ⟨a, 0, none⟩)) (.pointer (some ⟨b, 0, none⟩))).run Tryz.prog (w.drewN n) = .ok (.bool false) (w.drewN n) := fun n => run_eql_ptr_other (w.drewN n) (a := ⟨a, 0, none⟩) (b := ⟨b, 0, none⟩) Tryz.underlying133 hj (by rw [hjs]; decide) (by simp [hab]) (Blk.below ha (below_drewN (Below.refl w.heap.size w) n) (Blk.lt ha)) (Blk.below hb (below_drewN (Below.refl w.heap.size w) n) (Blk.lt hb))
 have c0 := Blk.cell ha 0
 have lt := Blk.lt ha
 have k0 := Blk.cell hb 0
 have ltb := Blk.lt hb
 obtain ⟨n, hn⟩ : ∃ n, n = s.length := ⟨_, rfl⟩
 obtain ⟨m, hm⟩ : ∃ n, n = t.length := ⟨_, rfl⟩
 rw [← hn] at c0
 rw [← hm] at k0
 have HC := fun w => Lib.hid (cmp_any n m w)
 rw [← hn, ← hm] at hst ⊢
 have hne : ((n : Int) != (m : Int)) = true := by simp; omega
 have hne2 : ((n : Int) == (m : Int)) = false := by simp; omega
 generalize cmpI (n : Int) (m : Int) = c at *
 clear ha hb hn hm hj hjs hst hab
 go_enter Tryz.func137, Tryz.ntmps137
 go_wp2
 go_quiet (fail)
 go_wp2
 refine wp_region_still_tail 8 (by kernel_rfl) (by kernel_rfl) ?_
 show wpStill _ _ (World.drew (w.drewN _)) _ _ _
 obtain ⟨W, hW⟩ : ∃ W, W = World.drew (w.drewN nq) := ⟨_, rfl⟩
 have HW := Lib.hid hW
 rw [← hW]
 have hB1 : Below w.heap.size w W := by rw [hW]; exact (below_drewN (Below.refl _ _) _).drew
 have d0 : W.cell? ⟨a, 0, none⟩ = some (.int .i64 n) := (hB1.cell (p := ⟨a, 0, none⟩) lt).trans c0
 have d1 : W.cell? ⟨b, 0, none⟩ = some (.int .i64 m) := (hB1.cell (p := ⟨b, 0, none⟩) ltb).trans k0
 have dl : a < W.heap.size := Nat.lt_of_lt_of_le lt hB1.size
 have dl2 : b < W.heap.size := Nat.lt_of_lt_of_le ltb hB1.size
 have HB := Lib.hid hB1
 clear hW hB1 c0 k0 hp
 simp only [List.take_succ_cons, List.take_zero, List.drop_succ_cons, List.drop_zero]
 repeat still_step
 refine wpStill_nil ?_
 show wpList _ _ _ _ _ (World.drew (w.drewN _))
 rw [← HW.out]
 clear HW
 go_wp2_with fail
 refine (HC _).out.mono ?_
 rintro e w3 ⟨rfl, rfl⟩
 go_wp2
 go_ret
 exact ⟨rfl, HB.out⟩
end Go.Proofs.YtodnlcbnbkkanaaGreatDoor
end
section
namespace Go.Proofs.YtodnlcbnbkkanaaGreatDoor
open Go Go.RowKit

theorem ba_whole (s : ByteArray) : s.extract 0 s.size = s := by
 apply ByteArray.ext
 rw [ByteArray.data_extract]
 show s.data.extract 0 s.data.size = s.data
 simp
theorem ba_end (s : ByteArray) : s.extract s.size s.size = ⟨#[]⟩ := by
 apply ByteArray.ext
 rw [ByteArray.data_extract]
 show s.data.extract s.data.size s.data.size = #[]
 simp
theorem cell_kept {W V : World} {q : Option Nat} {b i : Nat} {v : Value} (hg : W.grownBy V q) (h : W.cell? ⟨b, i, none⟩ = some v) (hne : some b ≠ q) : V.cell? ⟨b, i, none⟩ = some v :=
 (World.cell?_of_block (hg.block b (lt_of_cell h) hne)).trans h
def CmpSt (w : World) (a b : Nat) (s t : List UInt8) (R1 R2 : Nat) (k : Nat) (W : World) : Prop :=
 Below w.heap.size w W ∧ R1 ≠ R2 ∧ w.heap.size ≤ R1 ∧ w.heap.size ≤ R2 ∧
 ((k = 1 ∧ ∃ S1 S2 c1 c2, Blk W R1 162 #[.slice (some ⟨S1, 0, none⟩) 1 c1] ∧ Blk W R2 162 #[.slice (some ⟨S2, 0, none⟩) 1 c2] ∧ W.cell? ⟨S1, 0, none⟩ = some (.pointer (some ⟨a, 0, none⟩)) ∧ W.cell? ⟨S2, 0, none⟩ = some (.pointer (some ⟨b, 0, none⟩)) ∧ S2 ≠ R1) ∨
  (k = 0 ∧ Lib.compareBytes s t = 0 ∧ ∃ a1 a2 c1 c2, Blk W R1 162 #[.slice a1 0 c1] ∧ Blk W R2 162 #[.slice a2 0 c2]))

set_option maxRecDepth 100000 in
set_option maxHeartbeats 8000000 in
theorem compare_bytes (a b : Nat) (s t : List UInt8) (w : World) (hab : a ≠ b) (ha : Leaf w a s) (hb : Leaf w b t) (hst : s.length = t.length) (hl : s.length ≤ 1073741824) : Calls Tryz.prog 137 #[.pointer (some ⟨a, 0, none⟩), .pointer (some ⟨b, 0, none⟩)] w fun e w' => e = .returned (.int .i64 (Lib.compareBytes s t)) ∧ Below w.heap.size w w' := by
 obtain ⟨j, hj, hjs⟩ := Option.map_eq_some_iff.1 (show (Tryz.prog.info? 192).map (·.size) = some 3 by kernel_rfl)
 have hp : ∀ n : Nat, (binOp .eql 133 (.pointer (some ⟨a, 0, none⟩)) (.pointer (some ⟨b, 0, none⟩))).run Tryz.prog (w.drewN n) = .ok (.bool false) (w.drewN n) := fun n => run_eql_ptr_other (w.drewN n) (a := ⟨a, 0, none⟩) (b := ⟨b, 0, none⟩) Tryz.underlying133 hj (by rw [hjs]; decide) (by simp [hab]) (Blk.below ha (below_drewN (Below.refl w.heap.size w) n) (Blk.lt ha)) (Blk.below hb (below_drewN (Below.refl w.heap.size w) n) (Blk.lt hb))
 have c0 := Blk.cell ha 0
 have lt := Blk.lt ha
 have k0 := Blk.cell hb 0
 have ltb := Blk.lt hb
 obtain ⟨n, hn⟩ : ∃ n, n = s.length := ⟨_, rfl⟩
 have hm : n = t.length := by rw [hn, hst]
 have HN := Lib.hid hn
 have HM := Lib.hid hm
 rw [← hn] at c0 hl
 rw [← hm] at k0
 have HA := Lib.hid ha
 have HB := Lib.hid hb
 have HSM := fun w => Lib.hid (strcmp_any (bs s) (bs t) w)
 obtain ⟨c, hc⟩ : ∃ c, c = Lib.compareBytes s t := ⟨_, rfl⟩
 simp only [bs_list] at HSM
 rw [← hc] at HSM ⊢
 have HC := Lib.hid hc
 have HBW : Hid ((bs s).extract 0 n = bs s ∧ (bs t).extract 0 n = bs t ∧ (bs s).extract n n = ⟨#[]⟩ ∧ (bs t).extract n n = ⟨#[]⟩ ∧ (bs s).size = n ∧ (bs t).size = n) := Lib.hid (by
  have e1 : (bs s).size = n := by rw [bs_size, hn]
  have e2 : (bs t).size = n := by rw [bs_size, hm]
  refine ⟨?_, ?_, ?_, ?_, e1, e2⟩
  ·rw [← e1]; exact ba_whole _
  ·rw [← e2]; exact ba_whole _
  ·rw [← e1]; exact ba_end _
  ·rw [← e2]; exact ba_end _)
 obtain ⟨W1, hW1⟩ : ∃ W1 : Nat → World, W1 = fun nq => ((((w.drewN nq).alloc (.cells #[.pointer (some ⟨a, 0, none⟩)] 133)).alloc (.cells #[.pointer (some ⟨b, 0, none⟩)] 133)).alloc (.cells #[.slice (some ⟨w.heap.size, 0, none⟩) 1 1] 162)).alloc (.cells #[.slice (some ⟨w.heap.size + 1, 0, none⟩) 1 1] 162) := ⟨_, rfl⟩
 have HSt : Hid (∀ nq, CmpSt w a b s t (w.heap.size + 1 + 1) (w.heap.size + 1 + 1 + 1) 1 (W1 nq)) := Lib.hid fun nq => by
  have e1 := Blk.new (w.drewN nq) 133 #[.pointer (some ⟨a, 0, none⟩)]
  have e2 := Blk.new ((w.drewN nq).alloc (.cells #[.pointer (some ⟨a, 0, none⟩)] 133)) 133 #[.pointer (some ⟨b, 0, none⟩)]
  have e3 := Blk.new (((w.drewN nq).alloc (.cells #[.pointer (some ⟨a, 0, none⟩)] 133)).alloc (.cells #[.pointer (some ⟨b, 0, none⟩)] 133)) 162 #[.slice (some ⟨w.heap.size, 0, none⟩) 1 1]
  have e4 := Blk.new ((((w.drewN nq).alloc (.cells #[.pointer (some ⟨a, 0, none⟩)] 133)).alloc (.cells #[.pointer (some ⟨b, 0, none⟩)] 133)).alloc (.cells #[.slice (some ⟨w.heap.size, 0, none⟩) 1 1] 162)) 162 #[.slice (some ⟨w.heap.size + 1, 0, none⟩) 1 1]
  have hs : (w.drewN nq).heap.size = w.heap.size := rfl
  simp only [World.size_alloc, hs] at e1 e2 e3 e4
  rw [hW1]
  refine ⟨((((below_drewN (Below.refl _ w) nq).alloc (Nat.le_refl _) _).alloc (by simp [hs]) _).alloc (by simp [hs]; omega) _).alloc (by simp [hs]; omega) _, by omega, by omega, by omega, .inl ⟨rfl, w.heap.size, w.heap.size + 1, 1, 1, e3.alloc _, e4, (((e1.alloc _).alloc _).alloc _).cell 0, ((e2.alloc _).alloc _).cell 0, by omega⟩⟩
 have HW1 := Lib.hid (congrFun hW1)
 clear ha hb hn hm hj hjs hst hab hc hW1
 go_enter Tryz.func137, Tryz.ntmps137
 go_wp2
 go_quiet (fail)
 go_wp2
 rw [← HW1.out nq]
 have HS0 := Lib.hid (HSt.out nq)
 clear HSt HW1 c0 k0 hp
 go_loopg [5, 6, 7, 8] 1 (fun gg vx vy v7 v8 wr => ∃ (k R1 R2 : Nat), k ≤ gg ∧ vx = .string ⟨#[]⟩ ∧ vy = .string ⟨#[]⟩ ∧ v7 = .pointer (some ⟨R1, 0, none⟩) ∧ v8 = .pointer (some ⟨R2, 0, none⟩) ∧ Hid (CmpSt w a b s t R1 R2 k wr))
 case atStart => exact ⟨1, _, _, Nat.le_refl _, rfl, rfl, rfl, rfl, HS0⟩
 case round =>
  clear HS0
  obtain ⟨k, R1, R2, hk, rfl, rfl, rfl, rfl, K⟩ := hrel
  obtain ⟨hB, hne, hr1, hr2, ⟨rfl, S1, S2, c1, c2, h1, h2, h3, h4, h5⟩ | ⟨rfl, hcb, a1, a2, c1, c2, h1, h2⟩⟩ := K.out
  ·have HN1 := Lib.hid (next_one R1 S1 c1 a s wr h1 h3 (Blk.below HA.out hB lt))
   have H2 := Lib.hid (And.intro h2 h4)
   have HBr := Lib.hid hB
   clear hB h1 h2 h3 h4 K
   go_wp2_with fail
   refine HN1.out.mono ?_
   rintro e w4 ⟨rfl, hk1, hg4⟩
   have hB4 : Below w.heap.size w w4 := below_grown HBr.out hg4 (Nat.le_refl _) hr1
   have H24 := Lib.hid (And.intro (H2.out.1.kept hg4 (by simp; omega)) (cell_kept hg4 H2.out.2 (by simp; omega)))
   have HK1 := Lib.hid hk1
   have HN2 := Lib.hid (next_one R2 S2 c2 b t w4 H24.out.1 H24.out.2 (Blk.below HB.out hB4 ltb))
   have HB4 := Lib.hid hB4
   clear hk1 hg4 hB4 H2 H24 HN1 HBr
   go_wp2_with fail
   refine HN2.out.mono ?_
   rintro e w5 ⟨rfl, hk2, hg5⟩
   have HB5 : Hid (Below w.heap.size w w5) := Lib.hid (below_grown HB4.out hg5 (Nat.le_refl _) hr2)
   have HKK : Hid (Blk w5 R1 162 #[.slice (some ⟨S1, 0, none⟩) 0 c1] ∧ Blk w5 R2 162 #[.slice (some ⟨S2, 0, none⟩) 0 c2]) := Lib.hid ⟨HK1.out.kept hg5 (by simp; omega), hk2⟩
   obtain ⟨hb1, hb2, hb3, hb4, hb5, hb6⟩ := HBW.out
   clear hk2 hg5 HK1 HB4 HN2
   by_cases h0 : n = 0
   ·have HZ : Hid (c = 0) := Lib.hid (by
     have e1 : s = [] := List.length_eq_zero_iff.1 (by have := HN.out; omega)
     have e2 : t = [] := List.length_eq_zero_iff.1 (by have := HM.out; omega)
     rw [HC.out, e1, e2]; rfl)
    rw [h0] at hb5 hb6
    clear hb1 hb2 hb3 hb4 HKK h0
    go_wp2
    go_ret
    exact ⟨by rw [HZ.out]; rfl, HB5.out⟩
   ·have hn0 : ((n : Int) == 0) = false := by simp; omega
    have z1 : (0 : Int) ≤ (n : Int) := by omega
    have H0 := Lib.hid h0
    clear h0
    go_wp2
    refine wp_region_still_tail 6 (by kernel_rfl) (by kernel_rfl) ?_
    show wpStill _ _ (World.drew w5) _ _ _
    obtain ⟨W, hW⟩ : ∃ W, W = World.drew w5 := ⟨_, rfl⟩
    have HW := Lib.hid hW
    rw [← hW]
    have HBW2 : Hid (Below w.heap.size w W) := Lib.hid (by rw [hW]; exact HB5.out.drew)
    have HKW : Hid (Blk W R1 162 #[.slice (some ⟨S1, 0, none⟩) 0 c1] ∧ Blk W R2 162 #[.slice (some ⟨S2, 0, none⟩) 0 c2]) := Lib.hid (by rw [hW]; exact HKK.out)
    clear hW HKK HB5
    simp only [List.take_succ_cons, List.take_zero, List.drop_succ_cons, List.drop_zero]
    repeat still_step
    refine wpStill_nil ?_
    show wpList _ _ _ _ _ (World.drew w5)
    rw [← HW.out]
    clear HW
    go_wp2_with fail
    refine (HSM _).out.mono ?_
    rintro e w6 ⟨rfl, rfl⟩
    have f1 := HKW.out.1.cell 0
    have f2 := HKW.out.2.cell 0
    have g1 := HKW.out.1.lt
    have g2 := HKW.out.2.lt
    by_cases hc0 : c = 0
    ·have HZ : Hid (Lib.compareBytes s t = 0) := Lib.hid (by rw [← HC.out, hc0])
     have hc1 : (c == 0) = true := by simpa using hc0
     have hc2 : (c != 0) = false := by simp [hc0]
     have HC0 := Lib.hid hc0
     clear hc0 HSM
     go_wp2
     go_quiet (fail)
     obtain ⟨W2, hW2⟩ : ∃ W2, W2 = W.drewN nq := ⟨_, rfl⟩
     rw [← hW2]
     have HB2 : Hid (Below w.heap.size w W2) := Lib.hid (by rw [hW2]; exact below_drewN HBW2.out _)
     have HK2 : Hid (Blk W2 R1 162 #[.slice (some ⟨S1, 0, none⟩) 0 c1] ∧ Blk W2 R2 162 #[.slice (some ⟨S2, 0, none⟩) 0 c2]) := Lib.hid (by rw [hW2]; exact HKW.out)
     clear hW2 f1 f2 g1 g2
     have f1 := HK2.out.1.cell 0
     have f2 := HK2.out.2.cell 0
     have g1 := HK2.out.1.lt
     have g2 := HK2.out.2.lt
     go_wp2
     go_roundg 0
     case rel => exact ⟨0, W2.heap.size, W2.heap.size + 1, Nat.le_refl _, rfl, rfl, rfl, rfl, Lib.hid (by
      have e1 := Blk.new W2 162 #[.slice (some ⟨S1, 0, none⟩) 0 c1]
      have e2 := Blk.new (W2.alloc (.cells #[.slice (some ⟨S1, 0, none⟩) 0 c1] 162)) 162 #[.slice (some ⟨S2, 0, none⟩) 0 c2]
      simp only [World.size_alloc] at e2
      have hsz := HB2.out.size
      exact ⟨(HB2.out.alloc hsz _).alloc (by simp; omega) _, by omega, hsz, by omega, .inr ⟨rfl, HZ.out, _, _, _, _, e1.alloc _, e2⟩⟩)⟩
     case measure => omega
    ·have hc1 : (c == 0) = false := by simpa using hc0
     have hc2 : (c != 0) = true := by simpa using hc0
     clear hc0 HSM
     go_wp2
     go_ret
     exact ⟨rfl, HBW2.out⟩
  ·have HN1 := Lib.hid (next_nil R1 a1 c1 wr h1)
   have H2 := Lib.hid h2
   have HBr := Lib.hid hB
   have HZ : Hid (c = 0) := Lib.hid (HC.out.trans hcb)
   clear hB h1 h2 K hcb HSM
   go_wp2_with fail
   refine HN1.out.mono ?_
   rintro e w4 ⟨rfl, hB4⟩
   have HN2 := Lib.hid (next_nil R2 a2 c2 w4 (H2.out.below hB4 H2.out.lt))
   have HB4 := Lib.hid (HBr.out.trans (hB4.mono HBr.out.size))
   clear hB4 HN1 H2
   go_wp2_with fail
   refine HN2.out.mono ?_
   rintro e w5 ⟨rfl, hB5⟩
   have HB5 := Lib.hid (HB4.out.trans (hB5.mono HB4.out.size))
   clear hB5 HN2
   go_wp2
   go_ret
   exact ⟨by rw [HZ.out]; rfl, HB5.out⟩
def CmpOK (lim : Nat) : Prop := ∀ (a b : Nat) (s t : List UInt8) (w : World), TxtAt w a s → TxtAt w b t → s.length ≤ lim → t.length ≤ lim →
 Calls Tryz.prog 137 #[.pointer (some ⟨a, 0, none⟩), .pointer (some ⟨b, 0, none⟩)] w fun e w' => e = .returned (.int .i64 (cmpT s t)) ∧ Below w.heap.size w w'
theorem compare_4096 : CmpOK 4096 := fun a b s t w ha hb hs ht => by
 have ha := ha.leaf hs
 have hb := hb.leaf ht
 by_cases hab : a = b
 ·subst hab
  have e := ha.unique hb
  subst e
  unfold cmpT
  rw [if_pos rfl, compareBytes_self]
  exact compare_same a s w ha
 ·unfold cmpT
  by_cases hl : s.length = t.length
  ·rw [if_pos hl]
   exact compare_bytes a b s t w hab ha hb hl (by omega)
  ·rw [if_neg hl]
   exact compare_size a b s t w hab ha hb hl
def StrOK (lim : Nat) : Prop := ∀ (a : Nat) (t : List UInt8) (w : World), TxtAt w a t → t.length ≤ lim → Calls Tryz.prog 87 #[.pointer (some ⟨a, 0, none⟩)] w fun e w' => e = .returned (.string (bs t)) ∧ Below w.heap.size w w'
theorem string_4096 : StrOK 4096 := fun a t w ha ht => string_leaf a t w (ha.leaf ht) (by omega)
end Go.Proofs.YtodnlcbnbkkanaaGreatDoor
end
