import Derived.OrdersHeld
import Derived.Deep.RegionHeld3
import Derived.Shelf.Spec.TrailingZeros
import Derived.Test.YtodnlcbnbkkanaaGreatDoorProg
import Derived.WalkKit
import Derived.WalkSpells
import Derived.WalkLawsBesides
import Derived.Lib.Hide
import Derived.Below
import Derived.RangeFuncNested
import Derived.RangeFuncBound
import Derived.RangeFuncCalls
import Derived.RangeFuncLeaves
import Derived.Deep.RegionWith
import Derived.OpenShut
import Derived.Deep.QuietTactic
import Derived.BigQuiet
import Derived.IntWalk
import Derived.Deep.RegionLaw
section
namespace Go.Vals
open Go

def putL : Array Value → List (Option Tmp) → List Value → Array Value
  | s, some d :: ds, v :: vs => putL (s.setIfInBounds d v) ds vs
  | s, none :: ds, _ :: vs => putL s ds vs
  | s, _, _ => s

theorem putL_size : ∀ (ds : List (Option Tmp)) (vs : List Value) (s : Array Value), (putL s ds vs).size = s.size
  | [], _, _ => rfl
  | _ :: _, [], s => by unfold putL; split <;> simp_all
  | some d :: ds, v :: vs, s => by simp only [putL]; rw [putL_size ds vs]; simp
  | none :: ds, v :: vs, s => by simp only [putL]; rw [putL_size ds vs]

theorem putL_off {t : Tmp} : ∀ (ds : List (Option Tmp)) (vs : List Value) (s : Array Value), some t ∉ ds → (putL s ds vs)[t]? = s[t]?
  | [], _, _, _ => rfl
  | _ :: _, [], s, _ => by unfold putL; split <;> simp_all
  | some d :: ds, v :: vs, s, h => by
    simp only [putL]
    rw [putL_off ds vs _ (fun hm => h (List.mem_cons_of_mem _ hm)), Array.getElem?_setIfInBounds_ne (fun e => h (by subst e; simp))]
  | none :: ds, v :: vs, s, h => by
    simp only [putL]
    exact putL_off ds vs _ (fun hm => h (List.mem_cons_of_mem _ hm))

def Kn (F : Array Value) (loose : List Tmp) (p : Tmp → Value → World → Prop) (t : Tmp) (v : Value) (w : World) : Prop :=
  (t ∈ loose ∧ p t v w) ∨ (t ∉ loose ∧ F[t]? = some v)

def Knows (K : Tmp → Value → World → Prop) (l : List Tmp) (a : Act) (w : World) : Prop := ∀ t ∈ l, ∃ v, a.tmps[t]? = some v ∧ K t v w
def Puts (K : Tmp → Value → World → Prop) (o : Oper) (v : Value) (w : World) : Prop := ∀ d, o.dst = some d → K d v w

def Gives (P : Program) (N : World → World → Prop) (K : Tmp → Value → World → Prop) (o : Oper) (w : World) : Result Next → Prop
  | .ok (.value u) w' => N w w' ∧ Puts K o u w'
  | .ok (.enter f args) w' => Calls P f args w' fun e w'' => ∃ u, e = .returned u ∧ N w w'' ∧ Puts K o u w''
  | _ => False

def Does (P : Program) (ops : Array Oper) (N : World → World → Prop) (K : Tmp → Value → World → Prop) (o : Oper) (a : Act) (w : World) : Prop :=
  (Region.wanted o (yielded ops a.tmps) = false ∧ Puts K o undef w) ∨
  (Region.wanted o (yielded ops a.tmps) = true ∧ Gives P N K o w ((execOp a.eval o).run P w))

section
variable {P : Program} {ops : Array Oper} {Q : Exit → Act → World → Prop} {md : Region.Mode} {N : World → World → Prop} {K : Tmp → Value → World → Prop}

theorem Does.wpOp {i : Nat} {o : Oper} {a : Act} {w : World} (hi : ops[i]? = some o) (hr : N w w) (h : Does P ops N K o a w)
    {R : Act → World → Prop} (hR : ∀ u w', N w w' → Puts K o u w' → R (a.put o.dst u) w') : wpOp P ops Q i R a w := by
  unfold Go.wpOp
  simp only [hi]
  rcases h with ⟨hw, hp⟩ | ⟨hw, hg⟩
  · simp only [hw, Bool.false_eq_true, if_false]; exact hR _ _ hr hp
  · simp only [hw, if_true]
    refine .inl ?_
    unfold Oper.wp
    generalize (execOp a.eval o).run P w = r at hg
    unfold Gives at hg
    split at hg
    · exact hR _ _ hg.1 hg.2
    · refine Calls.mono hg fun e w'' he => ?_
      obtain ⟨u, rfl, h1, h2⟩ := he
      exact hR _ _ h1 h2
    · exact hg.elim

def ck (md : Region.Mode) (ops : Array Oper) (loose : List Tmp) : Bool :=
  Region.noSelect ops && (List.range ops.size).all fun j => match ops[j]? with
    | none => true
    | some o =>
      (o.after.all fun e => decide (e.on < j)) &&
      (List.range ops.size).all fun i => match ops[i]? with
        | none => true
        | some x => match x.dst with
          | none => true
          | some d => (i == j || o.dst != some d) && (!((o.looksAt ops).contains d) || o.after.any fun e => Region.binds md e && e.on == i)

theorem ck_spec {loose : List Tmp} (h : ck md ops loose = true) :
    (∀ (j : Nat) (o : Oper) cs b, ops[j]? = some o → o.op ≠ .select cs b) ∧
    (∀ (j : Nat) (o : Oper), ops[j]? = some o → ∀ e ∈ o.after, e.on < j) ∧
    (∀ (j : Nat) (o : Oper) (i : Nat) (x : Oper) (d : Tmp), ops[j]? = some o → ops[i]? = some x → x.dst = some d → i ≠ j → o.dst ≠ some d) ∧
    (∀ (j : Nat) (o : Oper) (i : Nat) (x : Oper) (d : Tmp), ops[j]? = some o → ops[i]? = some x → x.dst = some d → d ∈ o.looksAt ops → ∃ e ∈ o.after, Region.binds md e = true ∧ e.on = i) := by
  unfold ck at h
  rw [Bool.and_eq_true] at h
  obtain ⟨hs, h⟩ := h
  rw [List.all_eq_true] at h
  have hj : ∀ (j : Nat) (o : Oper), ops[j]? = some o → (∀ e ∈ o.after, e.on < j) ∧ ∀ (i : Nat) (x : Oper) (d : Tmp), ops[i]? = some x → x.dst = some d → (i ≠ j → o.dst ≠ some d) ∧ (d ∈ o.looksAt ops → ∃ e ∈ o.after, Region.binds md e = true ∧ e.on = i) := by
    intro j o ho
    have hlt : j < ops.size := (Array.getElem?_eq_some_iff.1 ho).1
    have := h j (by simpa using hlt)
    simp only [ho, Bool.and_eq_true] at this
    obtain ⟨h1, h2⟩ := this
    refine ⟨fun e he => by simpa using (Array.all_eq_true_iff_forall_mem.1 h1) e he, fun i x d hi hx => ?_⟩
    have hlt' : i < ops.size := (Array.getElem?_eq_some_iff.1 hi).1
    rw [List.all_eq_true] at h2
    have := h2 i (by simpa using hlt')
    simp only [hi, hx, Bool.and_eq_true, Bool.or_eq_true] at this
    obtain ⟨h3, h4⟩ := this
    refine ⟨fun hne => ?_, fun hm => ?_⟩
    · rcases h3 with h3 | h3
      · exact absurd (by simpa using h3) hne
      · simpa using h3
    · rcases h4 with h4 | h4
      · simp [hm] at h4
      · rw [Array.any_eq_true'] at h4
        obtain ⟨e, he, h5⟩ := h4
        rw [Bool.and_eq_true] at h5
        exact ⟨e, he, h5.1, by simpa using h5.2⟩
  exact ⟨Region.noSelect_spec hs, fun j o ho => (hj j o ho).1, fun j o i x d ho hi hx => ((hj j o ho).2 i x d hi hx).1, fun j o i x d ho hi hx => ((hj j o ho).2 i x d hi hx).2⟩

def Settled (ops : Array Oper) (listed : Array Bool) (t : Tmp) : Prop := ∀ (j : Nat) (o : Oper), ops[j]? = some o → o.dst = some t → listed.getD j true = true

def left (ops : Array Oper) (listed : Array Bool) : Nat := (List.range ops.size).countP fun j => !listed.getD j true

theorem countP_lt {α : Type} {p q : α → Bool} : ∀ {l : List α} {x : α}, (∀ y ∈ l, q y = true → p y = true) → x ∈ l → p x = true → q x = false → l.countP q < l.countP p
  | [], _, _, hx, _, _ => by cases hx
  | y :: l, x, h, hx, hp, hq => by
    have hle : l.countP q ≤ l.countP p := List.countP_mono_left fun z hz => h z (List.mem_cons_of_mem _ hz)
    rcases List.mem_cons.1 hx with rfl | hx
    · rw [List.countP_cons_of_pos hp, List.countP_cons_of_neg (by simp [hq])]; omega
    · have ih := countP_lt (fun z hz => h z (List.mem_cons_of_mem _ hz)) hx hp hq
      have h0 := h y List.mem_cons_self
      rw [List.countP_cons, List.countP_cons]
      cases hqy : q y
      · simp; omega
      · simp [h0 hqy]; exact ih

theorem listed_all {listed : Array Bool} (hlt : ∀ (j : Nat) (o : Oper), ops[j]? = some o → ∀ e ∈ o.after, e.on < j) (hsz : listed.size = ops.size)
    (hr : Region.ready md ops listed = []) : ∀ (j : Nat) (o : Oper), ops[j]? = some o → listed.getD j true = true := by
  intro j
  induction j using Nat.strongRecOn with
  | _ j ih =>
    intro o ho
    cases hl : listed.getD j true with
    | true => rfl
    | false =>
      have : j ∈ Region.ready md ops listed := by
        rw [mem_ready]
        refine ⟨hl, o, ho, fun e he _ => ?_⟩
        have h1 := hlt j o ho e he
        have hj : j < ops.size := (Array.getElem?_eq_some_iff.1 ho).1
        have hs : e.on < ops.size := by omega
        have := ih e.on h1 ops[e.on] (by simp [hs])
        have hs' : e.on < listed.size := by omega
        simpa [hs'] using this
      rw [hr] at this
      cases this

theorem wpAny_vals {S : World → Prop} (hsel : ∀ (j : Nat) (o : Oper) cs b, ops[j]? = some o → o.op ≠ .select cs b)
    (hlt : ∀ (j : Nat) (o : Oper), ops[j]? = some o → ∀ e ∈ o.after, e.on < j)
    (hone : ∀ (j : Nat) (o : Oper) (i : Nat) (x : Oper) (d : Tmp), ops[j]? = some o → ops[i]? = some x → x.dst = some d → i ≠ j → o.dst ≠ some d)
    (hlook : ∀ (j : Nat) (o : Oper) (i : Nat) (x : Oper) (d : Tmp), ops[j]? = some o → ops[i]? = some x → x.dst = some d → d ∈ o.looksAt ops → ∃ e ∈ o.after, Region.binds md e = true ∧ e.on = i)
    (n : Nat) (ds : List Deferred) (hin : ∀ (j : Nat) (o : Oper), ops[j]? = some o → (∀ d, o.dst = some d → d < n) ∧ ∀ t ∈ o.looksAt ops, t < n)
    (hN : ∀ w, N w w) (hSN : ∀ w w', S w → N w w' → S w') (hKN : ∀ t v w w', K t v w → N w w' → K t v w')
    (hall : ∀ (j : Nat) (o : Oper), ops[j]? = some o → ∀ a w, a.defers = ds → S w → Knows K (o.looksAt ops) a w → Does P ops N K o a w)
    (hQ : ∀ a w, a.tmps.size = n → a.defers = ds → S w → (∀ t < n, ∃ v, a.tmps[t]? = some v ∧ K t v w) → Q .normal a w) :
    ∀ (fuel : Nat) (listed : Array Bool) (a : Act) (w : World), listed.size = ops.size → left ops listed ≤ fuel → a.tmps.size = n → a.defers = ds → S w →
      (∀ t < n, Settled ops listed t → ∃ v, a.tmps[t]? = some v ∧ K t v w) → wpAny P md ops Q fuel listed a w := by
  intro fuel
  have fin : ∀ (listed : Array Bool) (a : Act) (w : World), listed.size = ops.size → a.tmps.size = n → a.defers = ds → S w →
      (∀ t < n, Settled ops listed t → ∃ v, a.tmps[t]? = some v ∧ K t v w) → Region.ready md ops listed = [] → Q .normal a w := by
    intro listed a w hsz hn hd hS hk hr
    have hl := listed_all hlt hsz hr
    exact hQ a w hn hd hS fun t ht => hk t ht fun j o ho _ => hl j o ho
  induction fuel with
  | zero =>
    intro listed a w hsz hleft hn hd hS hk
    have hr : Region.ready md ops listed = [] := by
      rw [List.eq_nil_iff_forall_not_mem]
      intro j hj
      obtain ⟨h0, o, ho, _⟩ := mem_ready.1 hj
      have hlt' : j < ops.size := (Array.getElem?_eq_some_iff.1 ho).1
      have : 0 < left ops listed := List.countP_pos_iff.2 ⟨j, by simpa using hlt', by simp [h0]⟩
      omega
    exact ⟨hr, fin listed a w hsz hn hd hS hk hr⟩
  | succ fuel ih =>
    intro listed a w hsz hleft hn hd hS hk
    refine ⟨fun hr => fin listed a w hsz hn hd hS hk hr, fun i hi => ?_⟩
    obtain ⟨h0, o, ho, hdep⟩ := mem_ready.1 hi
    have hilt : i < ops.size := (Array.getElem?_eq_some_iff.1 ho).1
    have hknow : Knows K (o.looksAt ops) a w := by
      intro t ht
      refine hk t ((hin i o ho).2 t ht) fun j x hx hxd => ?_
      obtain ⟨e, he, hb, rfl⟩ := hlook i o j x t ho hx hxd ht
      have h1 := hdep e he hb
      have hj : e.on < ops.size := (Array.getElem?_eq_some_iff.1 hx).1
      have hj' : e.on < listed.size := by omega
      simpa [hj'] using h1
    refine (hall i o ho a w hd hS hknow).wpOp ho (hN w) fun u w' hw' hp => ?_
    refine ih _ _ _ (by simpa using hsz) ?_ ?_ ?_ (hSN _ _ hS hw') ?_
    · have : left ops (listed.setIfInBounds i true) < left ops listed := by
        refine countP_lt (x := i) (fun j _ hj => ?_) (by simpa using hilt) (by simp [h0]) (by simp [hsz, hilt])
        by_cases hij : i = j
        · subst hij; simp [hsz, hilt] at hj
        · rw [getD_set_ne true hij] at hj; exact hj
      omega
    · unfold Act.put; split <;> simp [hn]
    · unfold Act.put; split <;> exact hd
    · intro t ht hset
      by_cases hdt : o.dst = some t
      · refine ⟨u, ?_, hp t hdt⟩
        have : t < a.tmps.size := by omega
        simp [Act.put, hdt, this]
      · have hset' : Settled ops listed t := by
          intro j x hx hxd
          by_cases hij : i = j
          · subst hij; rw [ho] at hx; cases hx; exact absurd hxd hdt
          · rw [← getD_set_ne true hij]; exact hset j x hx hxd
        obtain ⟨v, hv, hK⟩ := hk t ht hset'
        refine ⟨v, ?_, hKN _ _ _ _ hK hw'⟩
        cases hod : o.dst with
        | none => simpa [Act.put] using hv
        | some d =>
          have : d ≠ t := fun e => hdt (by rw [hod, e])
          simp only [Act.put]
          rw [Array.getElem?_setIfInBounds_ne this]; exact hv

def below (ops : Array Oper) (n : Nat) : Bool :=
  (List.range ops.size).all fun j => match ops[j]? with
    | none => true
    | some o => (match o.dst with | some d => decide (d < n) | none => true) && (o.looksAt ops).all fun t => decide (t < n)

theorem below_spec {n : Nat} (h : below ops n = true) : ∀ (j : Nat) (o : Oper), ops[j]? = some o → (∀ d, o.dst = some d → d < n) ∧ ∀ t ∈ o.looksAt ops, t < n := by
  intro j o ho
  unfold below at h
  rw [List.all_eq_true] at h
  have hlt : j < ops.size := (Array.getElem?_eq_some_iff.1 ho).1
  have := h j (by simpa using hlt)
  simp only [ho, Bool.and_eq_true] at this
  refine ⟨fun d hd => ?_, fun t ht => ?_⟩
  · have h1 := this.1
    simp only [hd] at h1
    simpa using h1
  · simpa using (List.all_eq_true.1 this.2) t ht

def Each (P : Program) (ops : Array Oper) (N : World → World → Prop) (K : Tmp → Value → World → Prop) (S : World → Prop) (ds : List Deferred) : List Oper → Prop
  | [] => True
  | o :: l => (∀ a w, a.defers = ds → S w → Knows K (o.looksAt ops) a w → Does P ops N K o a w) ∧ Each P ops N K S ds l

theorem Each.get {S : World → Prop} {ds : List Deferred} : ∀ {l : List Oper}, Each P ops N K S ds l → ∀ (j : Nat) (o : Oper), l[j]? = some o → ∀ a w, a.defers = ds → S w → Knows K (o.looksAt ops) a w → Does P ops N K o a w
  | [], _, j, o, h => by simp at h
  | x :: l, hE, 0, o, h => by simp at h; subst h; exact hE.1
  | x :: l, hE, j + 1, o, h => by simp at h; exact hE.2.get j o h

theorem left_start : left ops (Array.replicate ops.size false) ≤ ops.size := by
  unfold left
  exact Nat.le_trans List.countP_le_length (by simp)

theorem wp_region_vals {id : Nat} {a : Act} {w : World} {S : World → Prop} (loose : List Tmp) (p : Tmp → Value → World → Prop) (vs : List Value) (F : Array Value)
    (hm : P.follows .mixedOrders = true) (hck : ck .any ops loose = true) (hb : below ops a.tmps.size = true)
    (hF : putL a.tmps (ops.toList.map (·.dst)) vs = F)
    (hl : (loose.all fun t => ops.toList.any fun o => o.dst == some t) = true)
    (hN : ∀ w, N w w) (hS : S w.drew) (hSN : ∀ w w', S w → N w w' → S w')
    (hpN : ∀ t ∈ loose, ∀ v w w', p t v w → N w w' → p t v w')
    (hall : Each P ops N (Kn F loose p) S a.defers ops.toList)
    (hQ : ∀ T w', T.size = F.size → S w' → (∀ t < F.size, ∃ v, T[t]? = some v ∧ Kn F loose p t v w') → Q .normal { a with tmps := T } w') : (Code.region id ops true).wp P Q a w := by
  obtain ⟨h1, h2, h3, h4⟩ := ck_spec hck
  have hFs : F.size = a.tmps.size := by rw [← hF, putL_size]
  refine wp_region_any hm (wpAny_vals (K := Kn F loose p) (N := N) (S := S) h1 h2 h3 h4 a.tmps.size a.defers (below_spec hb) hN hSN ?_ ?_ ?_ ops.size _ a _ (by simp) left_start rfl rfl hS ?_)
  · rintro t v w w' (⟨hm, hp⟩ | ⟨hm, hp⟩) hw
    · exact .inl ⟨hm, hpN t hm v w w' hp hw⟩
    · exact .inr ⟨hm, hp⟩
  · intro j o ho a' w' hd hS' hK
    exact hall.get j o (by simpa using ho) a' w' hd hS' hK
  · intro a' w' hn hd hS' hk
    have := hQ a'.tmps w' (by rw [hn, hFs]) hS' (by rw [hFs]; exact hk)
    rw [← hd] at this
    exact this
  · intro t ht hset
    have hnd : some t ∉ ops.toList.map (·.dst) := by
      intro hm
      obtain ⟨o, ho, hod⟩ := List.mem_map.1 hm
      obtain ⟨j, hj⟩ := List.mem_iff_getElem?.1 ho
      have hj' : ops[j]? = some o := by simpa using hj
      have h5 := hset j o hj' hod
      have hlt : j < ops.size := (Array.getElem?_eq_some_iff.1 hj').1
      simp [hlt] at h5
    refine ⟨a.tmps[t], by simp [ht], .inr ⟨fun hm => ?_, ?_⟩⟩
    · rw [List.all_eq_true] at hl
      have := hl t hm
      rw [List.any_eq_true] at this
      obtain ⟨o, ho, hod⟩ := this
      exact hnd (List.mem_map.2 ⟨o, ho, by simpa using hod⟩)
    · rw [← hF, putL_off _ _ _ hnd]; simp [ht]

theorem wp_region_vals0 {id : Nat} {a : Act} {w : World} {S : World → Prop} (vs : List Value) (F : Array Value)
    (hm : P.follows .mixedOrders = true) (hck : ck .any ops [] = true) (hb : below ops a.tmps.size = true)
    (hF : putL a.tmps (ops.toList.map (·.dst)) vs = F)
    (hN : ∀ w, N w w) (hS : S w.drew) (hSN : ∀ w w', S w → N w w' → S w')
    (hall : Each P ops N (Kn F [] fun _ _ _ => False) S a.defers ops.toList)
    (hQ : ∀ w', S w' → Q .normal { a with tmps := F } w') : (Code.region id ops true).wp P Q a w := by
  refine wp_region_vals [] (fun _ _ _ => False) vs F hm hck hb hF rfl hN hS hSN (by simp) hall fun T w' hT hS' hk => ?_
  have : T = F := by
    apply Array.ext hT
    intro i h1 h2
    obtain ⟨v, hv, hK⟩ := hk i h2
    rcases hK with ⟨h, _⟩ | ⟨_, hK⟩
    · cases h
    · rw [← hK] at hv; simpa [h1, h2] using hv
  subst this
  exact hQ w' hS'

theorem does_at {F : Array Value} {loose : List Tmp} {p : Tmp → Value → World → Prop} {o : Oper} {a : Act} {w : World} (hs : ∀ cs b, o.op ≠ .select cs b)
    (hl : (o.looksAt ops).all (fun t => !loose.contains t) = true) (hk : Knows (Kn F loose p) (o.looksAt ops) a w)
    (h : Does P ops N (Kn F loose p) o { a with tmps := F } w) : Does P ops N (Kn F loose p) o a w := by
  have hsame : ∀ t ∈ o.looksAt ops, a.tmps[t]? = F[t]? := by
    intro t ht
    obtain ⟨v, hv, hK⟩ := hk t ht
    have h1 := (List.all_eq_true.1 hl) t ht
    rcases hK with ⟨hm, _⟩ | ⟨_, hK⟩
    · simp [hm] at h1
    · rw [hv, hK]
  have he : execOp a.eval o = execOp ({ a with tmps := F } : Act).eval o := by
    refine execOp_congr o hs fun x hx => ?_
    cases x with
    | tmp t =>
      have ht : t ∈ o.looksAt ops := List.mem_append_left _ (List.mem_filterMap.2 ⟨.tmp t, by simpa using hx, rfl⟩)
      have := hsame t ht
      simp [Act.eval, this]
    | _ => rfl
  have hw : Region.wanted o (yielded ops a.tmps) = Region.wanted o (yielded ops F) := by
    unfold Region.wanted
    cases hg : o.guard with
    | none => rfl
    | some gw =>
      obtain ⟨g, want⟩ := gw
      have hy : yielded ops a.tmps g = yielded ops F g := by
        unfold yielded
        cases ht : (ops[g]?).bind (·.dst) with
        | none => rfl
        | some t =>
          have := hsame t (by simp [Oper.looksAt, hg, ht])
          simp [this]
      simp only [hy]
  unfold Does at *
  rw [he, hw]
  exact h

theorem puts_at {F : Array Value} {loose : List Tmp} {p : Tmp → Value → World → Prop} {o : Oper} {w : World} {d : Tmp} {v : Value} (hd : o.dst = some d) (hn : loose.contains d = false) (hv : F[d]? = some v) : Puts (Kn F loose p) o v w := by
  intro d' hd'
  rw [hd] at hd'
  cases hd'
  exact .inr ⟨by simpa using hn, hv⟩

def noSel (o : Oper) : Bool := match o.op with | .select .. => false | _ => true
theorem noSel_spec {o : Oper} (h : noSel o = true) : ∀ cs b, o.op ≠ .select cs b := by
  intro cs b e
  simp [noSel, e] at h

section
variable {F : Array Value} {loose : List Tmp} {p : Tmp → Value → World → Prop} {S : World → Prop} {o : Oper} {ds : List Deferred} {l : List Oper} {d : Tmp} {v : Value}

def own (ops : Array Oper) (loose : List Tmp) (o : Oper) (d : Tmp) : Bool := noSel o && (o.looksAt ops).all (fun t => !loose.contains t) && (o.dst == some d) && !loose.contains d
theorem own_spec (h : own ops loose o d = true) : (∀ cs b, o.op ≠ .select cs b) ∧ (o.looksAt ops).all (fun t => !loose.contains t) = true ∧ o.dst = some d ∧ loose.contains d = false := by
  unfold own at h
  simp only [Bool.and_eq_true] at h
  exact ⟨noSel_spec h.1.1.1, h.1.1.2, by simpa using h.1.2, by simpa using h.2⟩

theorem Each.val (d : Tmp) (v : Value) (ho : own ops loose o d = true) (hw : Region.wanted o (yielded ops F) = true) (hv : F[d]? = some v) (hN : ∀ w, N w w)
    (he : ∀ w, S w → ∀ ds, (execOp (Act.eval ⟨F, ds⟩) o).run P w = .ok (.value v) w) (hr : Each P ops N (Kn F loose p) S ds l) : Each P ops N (Kn F loose p) S ds (o :: l) :=
  have h := own_spec ho
  ⟨fun a w _ hS hk => does_at h.1 h.2.1 hk (.inr ⟨hw, by
    have := he w hS a.defers
    show Gives P N _ o w ((execOp (Act.eval ⟨F, a.defers⟩) o).run P w)
    rw [this]; exact ⟨hN w, puts_at h.2.2.1 h.2.2.2 hv⟩⟩), hr⟩
theorem Each.off (d : Tmp) (ho : own ops loose o d = true) (hw : Region.wanted o (yielded ops F) = false) (hv : F[d]? = some undef)
    (hr : Each P ops N (Kn F loose p) S ds l) : Each P ops N (Kn F loose p) S ds (o :: l) :=
  have h := own_spec ho
  ⟨fun a w _ hS hk => does_at h.1 h.2.1 hk (.inl ⟨hw, puts_at h.2.2.1 h.2.2.2 hv⟩), hr⟩
theorem Each.call (d : Tmp) (v : Value) (f : FuncId) (args : Array Value) (ho : own ops loose o d = true) (hw : Region.wanted o (yielded ops F) = true) (hv : F[d]? = some v)
    (he : ∀ w, ∀ ds, (execOp (Act.eval ⟨F, ds⟩) o).run P w = .ok (.enter f args) w) (hc : ∀ w, S w → Calls P f args w fun e w' => e = .returned v ∧ N w w')
    (hr : Each P ops N (Kn F loose p) S ds l) : Each P ops N (Kn F loose p) S ds (o :: l) :=
  have h := own_spec ho
  ⟨fun a w _ hS hk => does_at h.1 h.2.1 hk (.inr ⟨hw, by
    have := he w a.defers
    show Gives P N _ o w ((execOp (Act.eval ⟨F, a.defers⟩) o).run P w)
    rw [this]; exact (hc w hS).mono fun e w' hh => ⟨v, hh.1, hh.2, puts_at h.2.2.1 h.2.2.2 hv⟩⟩), hr⟩
def guardIn (ops : Array Oper) (o : Oper) (l : List Tmp) : Bool := match o.guard with
  | some (g, _) => match (ops[g]?).bind (·.dst) with | some d => l.contains d | none => true
  | none => true
end
end
end Go.Vals
end
section
namespace Go.Vals
open Go
section
variable {P : Program} {ops : Array Oper} {Q : Exit → Act → World → Prop} {md : Region.Mode} {N : World → World → Prop} {K : Tmp → Value → World → Prop}
def ckB (md : Region.Mode) (ops : Array Oper) (loose : List Tmp) : Bool :=
  Region.noSelect ops && (List.range ops.size).all fun j => match ops[j]? with
    | none => true
    | some o =>
      (o.after.all fun e => !Region.binds md e || decide (e.on < j)) &&
      (List.range ops.size).all fun i => match ops[i]? with
        | none => true
        | some x => match x.dst with
          | none => true
          | some d => (i == j || o.dst != some d) && (!((o.looksAt ops).contains d) || o.after.any fun e => Region.binds md e && e.on == i)

theorem ckB_spec {loose : List Tmp} (h : ckB md ops loose = true) :
    (∀ (j : Nat) (o : Oper) cs b, ops[j]? = some o → o.op ≠ .select cs b) ∧
    (∀ (j : Nat) (o : Oper), ops[j]? = some o → ∀ e ∈ o.after, Region.binds md e = true → e.on < j) ∧
    (∀ (j : Nat) (o : Oper) (i : Nat) (x : Oper) (d : Tmp), ops[j]? = some o → ops[i]? = some x → x.dst = some d → i ≠ j → o.dst ≠ some d) ∧
    (∀ (j : Nat) (o : Oper) (i : Nat) (x : Oper) (d : Tmp), ops[j]? = some o → ops[i]? = some x → x.dst = some d → d ∈ o.looksAt ops → ∃ e ∈ o.after, Region.binds md e = true ∧ e.on = i) := by
  unfold ckB at h
  rw [Bool.and_eq_true] at h
  obtain ⟨hs, h⟩ := h
  rw [List.all_eq_true] at h
  have hj : ∀ (j : Nat) (o : Oper), ops[j]? = some o → (∀ e ∈ o.after, Region.binds md e = true → e.on < j) ∧ ∀ (i : Nat) (x : Oper) (d : Tmp), ops[i]? = some x → x.dst = some d → (i ≠ j → o.dst ≠ some d) ∧ (d ∈ o.looksAt ops → ∃ e ∈ o.after, Region.binds md e = true ∧ e.on = i) := by
    intro j o ho
    have hlt : j < ops.size := (Array.getElem?_eq_some_iff.1 ho).1
    have := h j (by simpa using hlt)
    simp only [ho, Bool.and_eq_true] at this
    obtain ⟨h1, h2⟩ := this
    refine ⟨fun e he hb => by have := (Array.all_eq_true_iff_forall_mem.1 h1) e he; simp only [hb, Bool.not_true, Bool.false_or, decide_eq_true_eq] at this; exact this, fun i x d hi hx => ?_⟩
    have hlt' : i < ops.size := (Array.getElem?_eq_some_iff.1 hi).1
    rw [List.all_eq_true] at h2
    have := h2 i (by simpa using hlt')
    simp only [hi, hx, Bool.and_eq_true, Bool.or_eq_true] at this
    obtain ⟨h3, h4⟩ := this
    refine ⟨fun hne => ?_, fun hm => ?_⟩
    · rcases h3 with h3 | h3
      · exact absurd (by simpa using h3) hne
      · simpa using h3
    · rcases h4 with h4 | h4
      · simp [hm] at h4
      · rw [Array.any_eq_true'] at h4
        obtain ⟨e, he, h5⟩ := h4
        rw [Bool.and_eq_true] at h5
        exact ⟨e, he, h5.1, by simpa using h5.2⟩
  exact ⟨Region.noSelect_spec hs, fun j o ho => (hj j o ho).1, fun j o i x d ho hi hx => ((hj j o ho).2 i x d hi hx).1, fun j o i x d ho hi hx => ((hj j o ho).2 i x d hi hx).2⟩

theorem listed_allB {listed : Array Bool} (hlt : ∀ (j : Nat) (o : Oper), ops[j]? = some o → ∀ e ∈ o.after, Region.binds md e = true → e.on < j) (hsz : listed.size = ops.size)
    (hr : Region.ready md ops listed = []) : ∀ (j : Nat) (o : Oper), ops[j]? = some o → listed.getD j true = true := by
  intro j
  induction j using Nat.strongRecOn with
  | _ j ih =>
    intro o ho
    cases hl : listed.getD j true with
    | true => rfl
    | false =>
      have : j ∈ Region.ready md ops listed := by
        rw [mem_ready]
        refine ⟨hl, o, ho, fun e he hbb => ?_⟩
        have h1 := hlt j o ho e he hbb
        have hj : j < ops.size := (Array.getElem?_eq_some_iff.1 ho).1
        have hs : e.on < ops.size := by omega
        have := ih e.on h1 ops[e.on] (by simp [hs])
        have hs' : e.on < listed.size := by omega
        simpa [hs'] using this
      rw [hr] at this
      cases this

theorem wpAny_valsB {S : World → Prop} (hsel : ∀ (j : Nat) (o : Oper) cs b, ops[j]? = some o → o.op ≠ .select cs b)
    (hlt : ∀ (j : Nat) (o : Oper), ops[j]? = some o → ∀ e ∈ o.after, Region.binds md e = true → e.on < j)
    (hone : ∀ (j : Nat) (o : Oper) (i : Nat) (x : Oper) (d : Tmp), ops[j]? = some o → ops[i]? = some x → x.dst = some d → i ≠ j → o.dst ≠ some d)
    (hlook : ∀ (j : Nat) (o : Oper) (i : Nat) (x : Oper) (d : Tmp), ops[j]? = some o → ops[i]? = some x → x.dst = some d → d ∈ o.looksAt ops → ∃ e ∈ o.after, Region.binds md e = true ∧ e.on = i)
    (n : Nat) (ds : List Deferred) (hin : ∀ (j : Nat) (o : Oper), ops[j]? = some o → (∀ d, o.dst = some d → d < n) ∧ ∀ t ∈ o.looksAt ops, t < n)
    (hN : ∀ w, N w w) (hSN : ∀ w w', S w → N w w' → S w') (hKN : ∀ t v w w', K t v w → N w w' → K t v w')
    (hall : ∀ (j : Nat) (o : Oper), ops[j]? = some o → ∀ a w, a.defers = ds → S w → Knows K (o.looksAt ops) a w → Does P ops N K o a w)
    (hQ : ∀ a w, a.tmps.size = n → a.defers = ds → S w → (∀ t < n, ∃ v, a.tmps[t]? = some v ∧ K t v w) → Q .normal a w) :
    ∀ (fuel : Nat) (listed : Array Bool) (a : Act) (w : World), listed.size = ops.size → left ops listed ≤ fuel → a.tmps.size = n → a.defers = ds → S w →
      (∀ t < n, Settled ops listed t → ∃ v, a.tmps[t]? = some v ∧ K t v w) → wpAny P md ops Q fuel listed a w := by
  intro fuel
  have fin : ∀ (listed : Array Bool) (a : Act) (w : World), listed.size = ops.size → a.tmps.size = n → a.defers = ds → S w →
      (∀ t < n, Settled ops listed t → ∃ v, a.tmps[t]? = some v ∧ K t v w) → Region.ready md ops listed = [] → Q .normal a w := by
    intro listed a w hsz hn hd hS hk hr
    have hl := listed_allB hlt hsz hr
    exact hQ a w hn hd hS fun t ht => hk t ht fun j o ho _ => hl j o ho
  induction fuel with
  | zero =>
    intro listed a w hsz hleft hn hd hS hk
    have hr : Region.ready md ops listed = [] := by
      rw [List.eq_nil_iff_forall_not_mem]
      intro j hj
      obtain ⟨h0, o, ho, _⟩ := mem_ready.1 hj
      have hlt' : j < ops.size := (Array.getElem?_eq_some_iff.1 ho).1
      have : 0 < left ops listed := List.countP_pos_iff.2 ⟨j, by simpa using hlt', by simp [h0]⟩
      omega
    exact ⟨hr, fin listed a w hsz hn hd hS hk hr⟩
  | succ fuel ih =>
    intro listed a w hsz hleft hn hd hS hk
    refine ⟨fun hr => fin listed a w hsz hn hd hS hk hr, fun i hi => ?_⟩
    obtain ⟨h0, o, ho, hdep⟩ := mem_ready.1 hi
    have hilt : i < ops.size := (Array.getElem?_eq_some_iff.1 ho).1
    have hknow : Knows K (o.looksAt ops) a w := by
      intro t ht
      refine hk t ((hin i o ho).2 t ht) fun j x hx hxd => ?_
      obtain ⟨e, he, hb, rfl⟩ := hlook i o j x t ho hx hxd ht
      have h1 := hdep e he hb
      have hj : e.on < ops.size := (Array.getElem?_eq_some_iff.1 hx).1
      have hj' : e.on < listed.size := by omega
      simpa [hj'] using h1
    refine (hall i o ho a w hd hS hknow).wpOp ho (hN w) fun u w' hw' hp => ?_
    refine ih _ _ _ (by simpa using hsz) ?_ ?_ ?_ (hSN _ _ hS hw') ?_
    · have : left ops (listed.setIfInBounds i true) < left ops listed := by
        refine countP_lt (x := i) (fun j _ hj => ?_) (by simpa using hilt) (by simp [h0]) (by simp [hsz, hilt])
        by_cases hij : i = j
        · subst hij; simp [hsz, hilt] at hj
        · rw [getD_set_ne true hij] at hj; exact hj
      omega
    · unfold Act.put; split <;> simp [hn]
    · unfold Act.put; split <;> exact hd
    · intro t ht hset
      by_cases hdt : o.dst = some t
      · refine ⟨u, ?_, hp t hdt⟩
        have : t < a.tmps.size := by omega
        simp [Act.put, hdt, this]
      · have hset' : Settled ops listed t := by
          intro j x hx hxd
          by_cases hij : i = j
          · subst hij; rw [ho] at hx; cases hx; exact absurd hxd hdt
          · rw [← getD_set_ne true hij]; exact hset j x hx hxd
        obtain ⟨v, hv, hK⟩ := hk t ht hset'
        refine ⟨v, ?_, hKN _ _ _ _ hK hw'⟩
        cases hod : o.dst with
        | none => simpa [Act.put] using hv
        | some d =>
          have : d ≠ t := fun e => hdt (by rw [hod, e])
          simp only [Act.put]
          rw [Array.getElem?_setIfInBounds_ne this]; exact hv

theorem wp_region_valsB {id : Nat} {a : Act} {w : World} {S : World → Prop} (loose : List Tmp) (p : Tmp → Value → World → Prop) (vs : List Value) (F : Array Value)
    (hm : P.follows .mixedOrders = true) (hck : ckB .any ops loose = true) (hb : below ops a.tmps.size = true)
    (hF : putL a.tmps (ops.toList.map (·.dst)) vs = F)
    (hl : (loose.all fun t => ops.toList.any fun o => o.dst == some t) = true)
    (hN : ∀ w, N w w) (hS : S w.drew) (hSN : ∀ w w', S w → N w w' → S w')
    (hpN : ∀ t ∈ loose, ∀ v w w', p t v w → N w w' → p t v w')
    (hall : Each P ops N (Kn F loose p) S a.defers ops.toList)
    (hQ : ∀ T w', T.size = F.size → S w' → (∀ t < F.size, ∃ v, T[t]? = some v ∧ Kn F loose p t v w') → Q .normal { a with tmps := T } w') : (Code.region id ops true).wp P Q a w := by
  obtain ⟨h1, h2, h3, h4⟩ := ckB_spec hck
  have hFs : F.size = a.tmps.size := by rw [← hF, putL_size]
  refine wp_region_any hm (wpAny_valsB (K := Kn F loose p) (N := N) (S := S) h1 h2 h3 h4 a.tmps.size a.defers (below_spec hb) hN hSN ?_ ?_ ?_ ops.size _ a _ (by simp) left_start rfl rfl hS ?_)
  · rintro t v w w' (⟨hm, hp⟩ | ⟨hm, hp⟩) hw
    · exact .inl ⟨hm, hpN t hm v w w' hp hw⟩
    · exact .inr ⟨hm, hp⟩
  · intro j o ho a' w' hd hS' hK
    exact hall.get j o (by simpa using ho) a' w' hd hS' hK
  · intro a' w' hn hd hS' hk
    have := hQ a'.tmps w' (by rw [hn, hFs]) hS' (by rw [hFs]; exact hk)
    rw [← hd] at this
    exact this
  · intro t ht hset
    have hnd : some t ∉ ops.toList.map (·.dst) := by
      intro hm
      obtain ⟨o, ho, hod⟩ := List.mem_map.1 hm
      obtain ⟨j, hj⟩ := List.mem_iff_getElem?.1 ho
      have hj' : ops[j]? = some o := by simpa using hj
      have h5 := hset j o hj' hod
      have hlt : j < ops.size := (Array.getElem?_eq_some_iff.1 hj').1
      simp [hlt] at h5
    refine ⟨a.tmps[t], by simp [ht], .inr ⟨fun hm => ?_, ?_⟩⟩
    · rw [List.all_eq_true] at hl
      have := hl t hm
      rw [List.any_eq_true] at this
      obtain ⟨o, ho, hod⟩ := this
      exact hnd (List.mem_map.2 ⟨o, ho, by simpa using hod⟩)
    · rw [← hF, putL_off _ _ _ hnd]; simp [ht]

theorem wp_region_valsB0 {id : Nat} {a : Act} {w : World} {S : World → Prop} (vs : List Value) (F : Array Value)
    (hm : P.follows .mixedOrders = true) (hck : ckB .any ops [] = true) (hb : below ops a.tmps.size = true)
    (hF : putL a.tmps (ops.toList.map (·.dst)) vs = F)
    (hN : ∀ w, N w w) (hS : S w.drew) (hSN : ∀ w w', S w → N w w' → S w')
    (hall : Each P ops N (Kn F [] fun _ _ _ => False) S a.defers ops.toList)
    (hQ : ∀ w', S w' → Q .normal { a with tmps := F } w') : (Code.region id ops true).wp P Q a w := by
  refine wp_region_valsB [] (fun _ _ _ => False) vs F hm hck hb hF rfl hN hS hSN (by simp) hall fun T w' hT hS' hk => ?_
  have : T = F := by
    apply Array.ext hT
    intro i h1 h2
    obtain ⟨v, hv, hK⟩ := hk i h2
    rcases hK with ⟨h, _⟩ | ⟨_, hK⟩
    · cases h
    · rw [← hK] at hv; simpa [h1, h2] using hv
  subst this
  exact hQ w' hS'

end
end Go.Vals
end
section
/-
  DERIVED: THE SHELF's CONTRACTS AT THIS DUMP, IN PLAIN WORDS (tools/lay-plain.mjs out of 'YtodnlcbnbkkanaaGreatDoorLib.lean', which tools/lay-shelf.mjs wrote): THE SAME DECLARATIONS UNDER THE SAME NAMES: 'import', 'namespace', 'open', 'def', 'theorem' AND NOTHING ELSE: no command of the shelf's: FOR A HAND-IN. Each laying: the table of numbers ('.._ren') and one theorem, a field a fact of the dump's own or the kernel's comparison; each contract: ONE APPLICATION.
-/
namespace Go.Proofs
open Go.Shelf
def Tryz.lays7n29_ren : Go.Shelf.Ren := ⟨fun | 29 => 173 | n => n, fun | 22 => 45 | 3 => 3 | 4 => 4 | 25 => 204 | 54 => 222 | 0 => 0 | 5 => 5 | n => n, fun | 1 => 1 | n => n⟩
theorem Tryz.lays7n29 : Go.Proofs.Lays7.n29 Tryz.prog Tryz.lays7n29_ren := {
  mixed := by kernel_rfl
  f29 := Tryz.func173.trans (congrArg some (by kernel_rfl))
  t0 := Tryz.underlying0
  a0 := Tryz.isAgg0
  z0 := Tryz.sizeOf0
  v0 := Tryz.zeroValue0
  i0 := by kernel_rfl
  t3 := Tryz.underlying3
  a3 := Tryz.isAgg3
  z3 := Tryz.sizeOf3
  v3 := Tryz.zeroValue3
  i3 := by kernel_rfl
  t4 := Tryz.underlying4
  a4 := Tryz.isAgg4
  z4 := Tryz.sizeOf4
  v4 := Tryz.zeroValue4
  i4 := by kernel_rfl
  t5 := Tryz.underlying5
  a5 := Tryz.isAgg5
  z5 := Tryz.sizeOf5
  v5 := Tryz.zeroValue5
  i5 := by kernel_rfl
  t22 := Tryz.underlying45
  a22 := Tryz.isAgg45
  z22 := Tryz.sizeOf45
  v22 := Tryz.zeroValue45
  i22 := by kernel_rfl
  t25 := Tryz.underlying204
  a25 := Tryz.isAgg204
  z25 := Tryz.sizeOf204
  v25 := Tryz.zeroValue204
  i25 := by kernel_rfl
  t54 := Tryz.underlying222
  a54 := Tryz.isAgg222
  z54 := Tryz.sizeOf222
  g1 := by kernel_rfl }
open Go.RowKit in
theorem Tryz.bits_TrailingZeros64 (x : Nat) (hx : x < 18446744073709551616) (w : World) (hT : x ≠ 0 → TabAt 1 Lib.deBruijn64tab w) :
    Calls Tryz.prog 173 #[.int .u64 x] w fun e w' => e = .returned (.int .i64 (Lib.ctz 64 x)) ∧ w' = w := Any7.bits_TrailingZeros64 Tryz.lays7n29 x hx w hT
end Go.Proofs
end
section
namespace Go.Proofs.YtodnlcbnbkkanaaGreatDoor
open Go Go.RowKit

abbrev BS := BitVec 256

def wd (s : BS) (i : Nat) : BitVec 64 := s.extractLsb' (64 * i) 64
def wdI (s : BS) (i : Nat) : Int := ((wd s i).toNat : Int)
def cset (s : BS) : Array Value := #[.int .u64 (wdI s 0), .int .u64 (wdI s 1), .int .u64 (wdI s 2), .int .u64 (wdI s 3)]
def vset (s : BS) : Value := .agg #[.int .u64 (wdI s 0), .int .u64 (wdI s 1), .int .u64 (wdI s 2), .int .u64 (wdI s 3)]

theorem wd_bit (s : BS) (i j : Nat) : (wd s i).getLsbD j = (decide (j < 64) && s.getLsbD (64 * i + j)) := by
  simp [wd, BitVec.getLsbD_extractLsb']

theorem ofInt_nat (x : BitVec 64) : BitVec.ofInt 64 (x.toNat : Int) = x := by
  rw [BitVec.ofInt_natCast]; simp

theorem wrap_bv (x : BitVec 64) : IntKind.u64.wrap (x.toNat : Int) = (x.toNat : Int) := by
  have := x.isLt
  rw [IntKind.wrap_u64]; omega

theorem bits_or_bv (x y : BitVec 64) : bits .or .u64 (x.toNat : Int) (y.toNat : Int) = ((x ||| y).toNat : Int) := by
  show IntKind.u64.wrap ((BitVec.ofInt 64 (x.toNat : Int) ||| BitVec.ofInt 64 (y.toNat : Int)).toNat : Int) = _
  rw [ofInt_nat, ofInt_nat, wrap_bv]
theorem wd_or (s t : BS) (i : Nat) : wd (s ||| t) i = wd s i ||| wd t i := by
  apply BitVec.eq_of_getLsbD_eq; intro j hj
  rw [BitVec.getLsbD_or, wd_bit, wd_bit, wd_bit, BitVec.getLsbD_or]
  simp [hj]
theorem wdI_or (s t : BS) (i : Nat) : bits .or .u64 (wdI s i) (wdI t i) = wdI (s ||| t) i := by
  unfold wdI; rw [bits_or_bv, wd_or]
theorem set_ext {s t : BS} (h : ∀ i, i < 4 → wd s i = wd t i) : s = t := by
  apply BitVec.eq_of_getLsbD_eq; intro j hj
  have := congrArg (fun x => BitVec.getLsbD x (j % 64)) (h (j / 64) (by omega))
  simp only [wd_bit] at this
  have e : 64 * (j / 64) + j % 64 = j := by omega
  have e2 : j % 64 < 64 := by omega
  simpa [e, e2] using this

theorem wdI_inj {s t : BS} (h0 : wdI s 0 = wdI t 0) (h1 : wdI s 1 = wdI t 1) (h2 : wdI s 2 = wdI t 2) (h3 : wdI s 3 = wdI t 3) : s = t := by
  apply set_ext
  intro i hi
  apply BitVec.eq_of_toNat_eq
  have h : i = 0 ∨ i = 1 ∨ i = 2 ∨ i = 3 := by omega
  unfold wdI at h0 h1 h2 h3
  rcases h with rfl | rfl | rfl | rfl <;> omega

theorem wd_app (x y z u : BitVec 64) (i : Nat) (hi : i < 4) : wd ((x ++ y) ++ (z ++ u) : BitVec 256) i = if i = 0 then u else if i = 1 then z else if i = 2 then y else x := by
  apply BitVec.eq_of_getLsbD_eq; intro j hj
  rw [wd_bit, BitVec.getLsbD_append, BitVec.getLsbD_append, BitVec.getLsbD_append]
  have h : i = 0 ∨ i = 1 ∨ i = 2 ∨ i = 3 := by omega
  rcases h with rfl | rfl | rfl | rfl
  · have h1 : 64 * 0 + j < 64 + 64 := by omega
    have h2 : 64 * 0 + j < 64 := by omega
    simp only [h1, h2, hj, if_true, decide_true, Bool.true_and]
    simp
  · have h1 : 64 * 1 + j < 64 + 64 := by omega
    have h2 : ¬ 64 * 1 + j < 64 := by omega
    have h3 : 64 * 1 + j - 64 = j := by omega
    simp only [h1, h2, h3, hj, if_true, if_false, decide_true, Bool.true_and]
    simp
  · have h1 : ¬ 64 * 2 + j < 64 + 64 := by omega
    have h2 : 64 * 2 + j - (64 + 64) < 64 := by omega
    have h3 : 64 * 2 + j - (64 + 64) = j := by omega
    simp only [h1, h3, hj, if_true, if_false, decide_true, Bool.true_and]
    simp
  · have h1 : ¬ 64 * 3 + j < 64 + 64 := by omega
    have h2 : ¬ 64 * 3 + j - (64 + 64) < 64 := by omega
    have h3 : 64 * 3 + j - (64 + 64) - 64 = j := by omega
    simp only [h1, h2, h3, hj, if_true, if_false, decide_true, Bool.true_and]
    simp

theorem set_of_words (a b c d : Int) (ha : 0 ≤ a ∧ a < 18446744073709551616) (hb : 0 ≤ b ∧ b < 18446744073709551616) (hc : 0 ≤ c ∧ c < 18446744073709551616) (hd : 0 ≤ d ∧ d < 18446744073709551616) :
    ∃ s : BS, a = wdI s 0 ∧ b = wdI s 1 ∧ c = wdI s 2 ∧ d = wdI s 3 := by
  refine ⟨((BitVec.ofNat 64 d.toNat ++ BitVec.ofNat 64 c.toNat) ++ (BitVec.ofNat 64 b.toNat ++ BitVec.ofNat 64 a.toNat) : BitVec 256), ?_, ?_, ?_, ?_⟩
  all_goals
    unfold wdI
    rw [wd_app _ _ _ _ _ (by omega)]
    simp
    omega

def one (b : Nat) : BS := BitVec.twoPow 256 b

def withB (s : BS) (b : Nat) : BS := s ||| one b

end Go.Proofs.YtodnlcbnbkkanaaGreatDoor
end
section
namespace Go.Proofs.YtodnlcbnbkkanaaGreatDoor
open Go Go.RowKit

theorem lt_of_cell {w : World} {b i : Nat} {v : Value} (h : w.cell? ⟨b, i, none⟩ = some v) : b < w.heap.size := by
  unfold World.cell? at h
  by_cases hb : b < w.heap.size
  · exact hb
  · simp [Array.getElem?_eq_none (Nat.le_of_not_lt hb)] at h

def Blk (W : World) (B : Nat) (t : TypeId) (cs : Array Value) : Prop := W.heap[B]? = some (.cells cs t (0, 0))

theorem Blk.lt {W : World} {B t : Nat} {cs : Array Value} (h : Blk W B t cs) : B < W.heap.size := (Array.getElem?_eq_some_iff.1 h).1
theorem Blk.cell {W : World} {B t : Nat} {cs : Array Value} (h : Blk W B t cs) (i : Nat) : W.cell? ⟨B, i, none⟩ = cs[i]? := by
  unfold World.cell?
  simp only [show W.heap[B]? = _ from h]
  rfl
theorem Blk.frozen {W : World} {B t : Nat} {cs : Array Value} (h : Blk W B t cs) (i : Nat) : W.frozen? ⟨B, i, none⟩ = false := by
  unfold World.frozen?
  simp only [show W.heap[B]? = _ from h]
  simp
theorem Blk.new (W : World) (t : TypeId) (cs : Array Value) : Blk (W.alloc (.cells cs t)) W.heap.size t cs := World.alloc_heap_new W _
theorem Blk.kept {W W' : World} {row : Option Nat} {B t : Nat} {cs : Array Value} (h : Blk W B t cs) (hg : W.grownBy W' row) (hne : some B ≠ row) : Blk W' B t cs := (hg.block B h.lt hne).trans h
theorem Blk.alloc {W : World} {B t : Nat} {cs : Array Value} (h : Blk W B t cs) (o : Obj) : Blk (W.alloc o) B t cs := h.kept (World.grownBy_alloc W o none) (by simp)
theorem Blk.drew {W : World} {B t : Nat} {cs : Array Value} (h : Blk W B t cs) : Blk W.drew B t cs := h
theorem Blk.below {W W' : World} {n B t : Nat} {cs : Array Value} (h : Blk W B t cs) (hb : Below n W W') (hn : B < n) : Blk W' B t cs := (hb.block B hn).trans h
theorem Blk.other {W : World} {B t : Nat} {cs : Array Value} (h : Blk W B t cs) {a : Addr} (hne : B ≠ a.block) (u : Value) : Blk (W.setCell a u) B t cs := (Below.heap_setCell W a u B hne).trans h
theorem Blk.set {W : World} {B t : Nat} {cs : Array Value} (h : Blk W B t cs) (i : Nat) (u : Value) : Blk (W.setCell ⟨B, i, none⟩ u) B t (cs.setIfInBounds i u) := by
  obtain ⟨hlt, hk⟩ := Array.getElem?_eq_some_iff.1 h
  show (W.heap.modify B _)[B]? = _
  rw [Array.getElem?_eq_getElem (by rw [Array.size_modify]; exact hlt), Array.getElem_modify_self, hk]
  rfl

structure SymM where
  kind : Int
  set : BS
  sort : Int
structure ProdM where
  left : Int
  ra : Option Addr
  rc : Nat
  right : List SymM
  cons : ByteArray
  role : Int
  prefer : Bool
  avoid : Bool
  frm : Int
structure ForM where
  parent : Int
  at_ : Int
  child : Int
structure FolM where
  sort : Int
  not : BS
structure GramM where
  sa : Option Addr
  sc : Nat
  sorts : List ByteArray
  pa : Option Addr
  pc : Nat
  prods : List ProdM
  start : Int
  fa : Option Addr
  fc : Nat
  forbid : List ForM
  wa : Option Addr
  wc : Nat
  follow : List FolM
inductive TreeM where
  | node (prod : Int) (byte : Int) (ka : Option Addr) (kc : Nat) (kids : List TreeM)

def strC (s : ByteArray) : Array Value := #[.string s]
def symC (x : SymM) : Array Value := #[.int .i64 x.kind, .int .u64 (wdI x.set 0), .int .u64 (wdI x.set 1), .int .u64 (wdI x.set 2), .int .u64 (wdI x.set 3), .int .i64 x.sort]
def prodC (p : ProdM) : Array Value := #[.int .i64 p.left, .slice p.ra p.right.length p.rc, .string p.cons, .int .i64 p.role, .bool p.prefer, .bool p.avoid, .int .i64 p.frm]
def forC (f : ForM) : Array Value := #[.int .i64 f.parent, .int .i64 f.at_, .int .i64 f.child]
def folC (f : FolM) : Array Value := #[.int .i64 f.sort, .int .u64 (wdI f.not 0), .int .u64 (wdI f.not 1), .int .u64 (wdI f.not 2), .int .u64 (wdI f.not 3)]
def gramC (g : GramM) : Array Value := #[.slice g.sa g.sorts.length g.sc, .slice g.pa g.prods.length g.pc, .int .i64 g.start, .slice g.fa g.forbid.length g.fc, .slice g.wa g.follow.length g.wc]
def treeC : TreeM → Array Value | .node p b ka kc kids => #[.int .i64 p, .int .u8 b, .slice ka kids.length kc]
def boolC (b : Bool) : Array Value := #[.bool b]
def intC (i : Int) : Array Value := #[.int .i64 i]

def CellsAt (w : World) (b o : Nat) (cs : Array Value) : Prop := ∀ j v, cs[j]? = some v → w.cell? ⟨b, o + j, none⟩ = some v
theorem CellsAt.to {w W : World} {b o : Nat} {cs : Array Value} (h : CellsAt w b o cs) (hb : W.heap[b]? = w.heap[b]?) : CellsAt W b o cs :=
  fun j v hv => (World.cell?_of_block (w := w) hb).trans (h j v hv)
theorem CellsAt.lt {w : World} {b o : Nat} {cs : Array Value} (h : CellsAt w b o cs) (hn : 0 < cs.size) : b < w.heap.size := lt_of_cell (h 0 _ (Array.getElem?_eq_getElem hn))
theorem CellsAt.below {w W : World} {n b o : Nat} {cs : Array Value} (h : CellsAt w b o cs) (hB : Below n w W) (hn : b < n) : CellsAt W b o cs := h.to (hB.block b hn)

def RowOf {α : Type} (k : Nat) (cs : α → Array Value) (G : World → α → Prop) (w : World) (a : Option Addr) (l : List α) : Prop :=
  ∀ (i : Nat) (x : α), l[i]? = some x → ∃ b off, a = some ⟨b, off, none⟩ ∧ b < w.heap.size ∧ CellsAt w b (off + i * k) (cs x) ∧ G w x
theorem RowOf.nil {α : Type} {k : Nat} {cs : α → Array Value} {G : World → α → Prop} {w : World} (a : Option Addr) : RowOf k cs G w a [] := fun i x h => by simp at h
theorem RowOf.below {α : Type} {k : Nat} {cs : α → Array Value} {G : World → α → Prop} {w W : World} {a : Option Addr} {l : List α} (h : RowOf k cs G w a l) (hB : Below w.heap.size w W)
    (hG : ∀ x, G w x → G W x) : RowOf k cs G W a l := fun i x hx => by
  obtain ⟨b, off, rfl, hb, hc, hg⟩ := h i x hx
  exact ⟨b, off, rfl, Nat.lt_of_lt_of_le hb hB.size, hc.below hB hb, hG x hg⟩

abbrev NoG {α : Type} : World → α → Prop := fun _ _ => True
abbrev RowStr : World → Option Addr → List ByteArray → Prop := RowOf 1 strC NoG
abbrev RowSym : World → Option Addr → List SymM → Prop := RowOf 6 symC NoG
abbrev RowInt : World → Option Addr → List Int → Prop := RowOf 1 intC NoG
abbrev RowBool : World → Option Addr → List Bool → Prop := RowOf 1 boolC NoG
abbrev RowFor : World → Option Addr → List ForM → Prop := RowOf 3 forC NoG
abbrev RowFol : World → Option Addr → List FolM → Prop := RowOf 5 folC NoG
def ProdIn (w : World) (p : ProdM) : Prop := RowSym w p.ra p.right
abbrev RowProd : World → Option Addr → List ProdM → Prop := RowOf 7 prodC ProdIn

theorem RowOf.belowN {α : Type} {k : Nat} {cs : α → Array Value} {w W : World} {a : Option Addr} {l : List α} (h : RowOf k cs NoG w a l) (hB : Below w.heap.size w W) : RowOf k cs NoG W a l := h.below hB fun _ _ => trivial
theorem ProdIn.below {w W : World} {p : ProdM} (h : ProdIn w p) (hB : Below w.heap.size w W) : ProdIn W p := RowOf.belowN h hB
theorem RowProd.below {w W : World} {a : Option Addr} {l : List ProdM} (h : RowProd w a l) (hB : Below w.heap.size w W) : RowProd W a l := RowOf.below h hB fun _ h => h.below hB

structure GIn (w : World) (g : GramM) : Prop where
  sorts : RowStr w g.sa g.sorts
  prods : RowProd w g.pa g.prods
  forbid : RowFor w g.fa g.forbid
  follow : RowFol w g.wa g.follow
theorem GIn.below {w W : World} {g : GramM} (h : GIn w g) (hB : Below w.heap.size w W) : GIn W g :=
  ⟨h.sorts.belowN hB, h.prods.below hB, h.forbid.belowN hB, h.follow.belowN hB⟩

mutual
def TreeIn (w : World) : TreeM → Prop
  | .node _ _ ka _ kids => KidsIn w ka 0 kids
def KidsIn (w : World) (ka : Option Addr) (i : Nat) : List TreeM → Prop
  | [] => True
  | t :: r => (∃ b off, ka = some ⟨b, off, none⟩ ∧ b < w.heap.size ∧ CellsAt w b (off + i * 3) (treeC t)) ∧ TreeIn w t ∧ KidsIn w ka (i + 1) r
end
abbrev RowTree : World → Option Addr → List TreeM → Prop := RowOf 3 treeC TreeIn
mutual
theorem TreeIn.below {w W : World} (hB : Below w.heap.size w W) : (t : TreeM) → TreeIn w t → TreeIn W t
  | .node _ _ ka _ kids, h => by rw [TreeIn] at h ⊢; exact KidsIn.below hB ka 0 kids h
theorem KidsIn.below {w W : World} (hB : Below w.heap.size w W) (ka : Option Addr) (i : Nat) : (l : List TreeM) → KidsIn w ka i l → KidsIn W ka i l
  | [], _ => by rw [KidsIn]; trivial
  | t :: r, h => by
    rw [KidsIn] at h ⊢
    obtain ⟨⟨b, off, h1, h2, h3⟩, h4, h5⟩ := h
    exact ⟨⟨b, off, h1, Nat.lt_of_lt_of_le h2 hB.size, h3.below hB h2⟩, TreeIn.below hB t h4, KidsIn.below hB ka (i + 1) r h5⟩
end
end Go.Proofs.YtodnlcbnbkkanaaGreatDoor
end
section
namespace Go.Proofs.YtodnlcbnbkkanaaGreatDoor
open Go Go.RowKit

def Says {α : Type} (cs : α → Value) (p : α → Bool) (l : List α) (K : Nat) (lb : Array Value) (w : World) : Prop :=
  ∀ x, x ∈ l → ∀ W, Below w.heap.size w W → Calls Tryz.prog K (#[cs x] ++ lb) W fun e w' => e = .returned (.bool (p x)) ∧ Below W.heap.size W w'

def firstI {α : Type} (q : α → Bool) : List α → Int
  | [] => -1
  | x :: r => if q x then 0 else if firstI q r < 0 then -1 else firstI q r + 1
theorem firstI_hit {α : Type} (q : α → Bool) : ∀ (l : List α) (m : Nat) (x : α), l[m]? = some x → q x = true → (∀ (j : Nat) (y : α), j < m → l[j]? = some y → q y = false) → firstI q l = m := by
  intro l
  induction l with
  | nil => intro m x h; simp at h
  | cons y r ih =>
    intro m x hx hq h
    cases m with
    | zero => simp at hx; subst hx; simp [firstI, hq]
    | succ m =>
      have h0 := h 0 y (by omega) rfl
      have := ih m x (by simpa using hx) hq (fun j z hj hz => h (j + 1) z (by omega) (by simpa using hz))
      rw [firstI, h0, this, if_neg (by simp), if_neg (by omega)]; omega
theorem firstI_none {α : Type} (q : α → Bool) : ∀ (l : List α), (∀ (j : Nat) (y : α), l[j]? = some y → q y = false) → firstI q l = -1 := by
  intro l
  induction l with
  | nil => intro _; rfl
  | cons y r ih =>
    intro h
    have := ih (fun j z hz => h (j + 1) z (by simpa using hz))
    rw [firstI, h 0 y rfl, this]; simp
theorem firstI_any {α : Type} (q : α → Bool) (l : List α) : decide (0 ≤ firstI q l) = l.any q := by
  induction l with
  | nil => rfl
  | cons x r ih =>
    rw [List.any_cons, ← ih, firstI]
    cases hq : q x
    · by_cases h : firstI q r < 0
      · have h1 : ¬ 0 ≤ firstI q r := by omega
        simp [h, h1]
      · have h1 : 0 ≤ firstI q r := by omega
        have h2 : 0 ≤ firstI q r + 1 := by omega
        simp [h, h1, h2]
    · simp
theorem any_not {α : Type} (p : α → Bool) (l : List α) : (!l.any fun x => !p x) = l.all p := by
  induction l with
  | nil => rfl
  | cons x r ih => simp only [List.any_cons, List.all_cons, ← ih]; cases p x <;> simp

def strV (s : ByteArray) : Value := .string s
def symV (x : SymM) : Value := .agg (symC x)
def prodV (x : ProdM) : Value := .agg (prodC x)
def forV (x : ForM) : Value := .agg (forC x)
def folV (x : FolM) : Value := .agg (folC x)
def treeV (x : TreeM) : Value := .agg (treeC x)
def gramV (x : GramM) : Value := .agg (gramC x)
theorem Str_at {w : World} {b o : Nat} {x : ByteArray} (h : CellsAt w b o (strC x)) : w.cell? ⟨b, o, none⟩ = some (.string x) :=
  h 0 _ rfl
theorem Int_at {w : World} {b o : Nat} {x : Int} (h : CellsAt w b o (intC x)) : w.cell? ⟨b, o, none⟩ = some (.int .i64 x) :=
  h 0 _ rfl
theorem Sym_at {w : World} {b o : Nat} {x : SymM} (h : CellsAt w b o (symC x)) : w.cell? ⟨b, o, none⟩ = some (.int .i64 x.kind) ∧ w.cell? ⟨b, o + 1, none⟩ = some (.int .u64 (wdI x.set 0)) ∧ w.cell? ⟨b, o + 2, none⟩ = some (.int .u64 (wdI x.set 1)) ∧ w.cell? ⟨b, o + 3, none⟩ = some (.int .u64 (wdI x.set 2)) ∧ w.cell? ⟨b, o + 4, none⟩ = some (.int .u64 (wdI x.set 3)) ∧ w.cell? ⟨b, o + 5, none⟩ = some (.int .i64 x.sort) :=
  ⟨h 0 _ rfl, h 1 _ rfl, h 2 _ rfl, h 3 _ rfl, h 4 _ rfl, h 5 _ rfl⟩
theorem Prod_at {w : World} {b o : Nat} {x : ProdM} (h : CellsAt w b o (prodC x)) : w.cell? ⟨b, o, none⟩ = some (.int .i64 x.left) ∧ w.cell? ⟨b, o + 1, none⟩ = some (.slice x.ra x.right.length x.rc) ∧ w.cell? ⟨b, o + 2, none⟩ = some (.string x.cons) ∧ w.cell? ⟨b, o + 3, none⟩ = some (.int .i64 x.role) ∧ w.cell? ⟨b, o + 4, none⟩ = some (.bool x.prefer) ∧ w.cell? ⟨b, o + 5, none⟩ = some (.bool x.avoid) ∧ w.cell? ⟨b, o + 6, none⟩ = some (.int .i64 x.frm) :=
  ⟨h 0 _ rfl, h 1 _ rfl, h 2 _ rfl, h 3 _ rfl, h 4 _ rfl, h 5 _ rfl, h 6 _ rfl⟩
theorem For_at {w : World} {b o : Nat} {x : ForM} (h : CellsAt w b o (forC x)) : w.cell? ⟨b, o, none⟩ = some (.int .i64 x.parent) ∧ w.cell? ⟨b, o + 1, none⟩ = some (.int .i64 x.at_) ∧ w.cell? ⟨b, o + 2, none⟩ = some (.int .i64 x.child) :=
  ⟨h 0 _ rfl, h 1 _ rfl, h 2 _ rfl⟩
theorem Fol_at {w : World} {b o : Nat} {x : FolM} (h : CellsAt w b o (folC x)) : w.cell? ⟨b, o, none⟩ = some (.int .i64 x.sort) ∧ w.cell? ⟨b, o + 1, none⟩ = some (.int .u64 (wdI x.not 0)) ∧ w.cell? ⟨b, o + 2, none⟩ = some (.int .u64 (wdI x.not 1)) ∧ w.cell? ⟨b, o + 3, none⟩ = some (.int .u64 (wdI x.not 2)) ∧ w.cell? ⟨b, o + 4, none⟩ = some (.int .u64 (wdI x.not 3)) :=
  ⟨h 0 _ rfl, h 1 _ rfl, h 2 _ rfl, h 3 _ rfl, h 4 _ rfl⟩
theorem Gram_at {w : World} {b o : Nat} {g : GramM} (h : CellsAt w b o (gramC g)) : w.cell? ⟨b, o, none⟩ = some (.slice g.sa g.sorts.length g.sc) ∧ w.cell? ⟨b, o + 1, none⟩ = some (.slice g.pa g.prods.length g.pc) ∧ w.cell? ⟨b, o + 2, none⟩ = some (.int .i64 g.start) ∧ w.cell? ⟨b, o + 3, none⟩ = some (.slice g.fa g.forbid.length g.fc) ∧ w.cell? ⟨b, o + 4, none⟩ = some (.slice g.wa g.follow.length g.wc) :=
  ⟨h 0 _ rfl, h 1 _ rfl, h 2 _ rfl, h 3 _ rfl, h 4 _ rfl⟩
end Go.Proofs.YtodnlcbnbkkanaaGreatDoor
end
section
namespace Go.Proofs.YtodnlcbnbkkanaaGreatDoor
open Go Go.RowKit

theorem part27 (a b c d : Int) (w : World) : (part 45 #[.int .u64 a, .int .u64 b, .int .u64 c, .int .u64 d] 0).run Tryz.prog w = .ok (.int .u64 a) w := by kernel_rfl
theorem part27_1 (a b c d : Int) (w : World) : (part 45 #[.int .u64 a, .int .u64 b, .int .u64 c, .int .u64 d] 1).run Tryz.prog w = .ok (.int .u64 b) w := by kernel_rfl
theorem part27_2 (a b c d : Int) (w : World) : (part 45 #[.int .u64 a, .int .u64 b, .int .u64 c, .int .u64 d] 2).run Tryz.prog w = .ok (.int .u64 c) w := by kernel_rfl
theorem part27_3 (a b c d : Int) (w : World) : (part 45 #[.int .u64 a, .int .u64 b, .int .u64 c, .int .u64 d] 3).run Tryz.prog w = .ok (.int .u64 d) w := by kernel_rfl
theorem size27 (w : World) : (sizeOf 45).run Tryz.prog w = .ok 1 w := by kernel_rfl

theorem eq_words (n : Nat) (a b c d a' b' c' d' : Int) (w : World) : (Op.equalIn (n + 2) 47 (.agg #[.int .u64 a, .int .u64 b, .int .u64 c, .int .u64 d]) (.agg #[.int .u64 a', .int .u64 b', .int .u64 c', .int .u64 d'])).run Tryz.prog w =
    .ok (a == a' && (b == b' && (c == c' && d == d'))) w := by
  have hu : Tryz.prog.underlying 47 = some (.array 4 45) := by kernel_rfl
  have h27 : Tryz.prog.underlying 45 = some (.int .u64) := by kernel_rfl
  rw [Op.equalIn]
  simp only [Sem.run_bind, run_underlying hu, Result.andThen_ok, size27]
  simp only [Std.Legacy.Range.forIn_eq_forIn_range', Std.Legacy.Range.size]
  rw [show List.range' 0 ((4 - 0 + 1 - 1) / 1) = [0, 1, 2, 3] from rfl]
  simp only [List.forIn_cons, List.forIn_nil, Sem.run_bind, Nat.reduceMul, part27, part27_1, part27_2, part27_3, Result.andThen_ok, run_equalIn_int w n 45 .u64 .u64 _ _ h27]
  by_cases h0 : a = a'
  · by_cases h1 : b = b'
    · by_cases h2 : c = c'
      · by_cases h3 : d = d' <;> simp [h0, h1, h2, h3, part27_1, part27_2, part27_3, run_equalIn_int _ n 45 .u64 .u64 _ _ h27]
      · simp [h0, h1, h2, part27_1, part27_2, part27_3, run_equalIn_int _ n 45 .u64 .u64 _ _ h27]
    · simp [h0, h1, part27_1, part27_2, part27_3, run_equalIn_int _ n 45 .u64 .u64 _ _ h27]
  · simp [h0, part27_1, part27_2, part27_3, run_equalIn_int _ n 45 .u64 .u64 _ _ h27]

theorem vset_beq (s t : BS) : (wdI s 0 == wdI t 0 && (wdI s 1 == wdI t 1 && (wdI s 2 == wdI t 2 && wdI s 3 == wdI t 3))) = (s == t) := by
  by_cases h : s = t
  · subst h; simp
  · have : (s == t) = false := by simpa using h
    rw [this]
    cases hx : (wdI s 0 == wdI t 0 && (wdI s 1 == wdI t 1 && (wdI s 2 == wdI t 2 && wdI s 3 == wdI t 3)))
    · rfl
    · simp only [Bool.and_eq_true, beq_iff_eq] at hx
      exact absurd (wdI_inj hx.1 hx.2.1 hx.2.2.1 hx.2.2.2) h

theorem eq_sets (s t : BS) (w : World) : (Op.equalIn 10000 47 (.agg #[.int .u64 (wdI s 0), .int .u64 (wdI s 1), .int .u64 (wdI s 2), .int .u64 (wdI s 3)]) (.agg #[.int .u64 (wdI t 0), .int .u64 (wdI t 1), .int .u64 (wdI t 2), .int .u64 (wdI t 3)])).run Tryz.prog w = .ok (s == t) w := by
  rw [← vset_beq]; exact eq_words 9998 _ _ _ _ _ _ _ _ w

end Go.Proofs.YtodnlcbnbkkanaaGreatDoor
end
section
namespace Go.Proofs.YtodnlcbnbkkanaaGreatDoor
open Go Go.RowKit

def numB (n c : Int) : Bool := decide (0 ≤ n) && decide (n < c)

set_option maxHeartbeats 400000 in
theorem num_any (n c : Int) (w : World) : Calls Tryz.prog 90 #[.int .i64 n, .int .i64 c] w fun e w' => e = .returned (.bool (numB n c)) ∧ w = w' := by
  unfold numB
  by_cases h : 0 ≤ n
  · have h1 : decide (0 ≤ n) = true := by simpa using h
    rw [h1, Bool.true_and]
    by_cases h2 : n < c
    · have h3 : decide (n < c) = true := by simpa using h2
      rw [h3]
      go_enter Tryz.func90, Tryz.ntmps90
      go_wp2
      go_ret
      exact ⟨rfl, rfl⟩
    · have h3 : decide (n < c) = false := by simpa using h2
      rw [h3]
      go_enter Tryz.func90, Tryz.ntmps90
      go_wp2
      go_ret
      exact ⟨rfl, rfl⟩
  · have h1 : decide (0 ≤ n) = false := by simpa using h
    rw [h1, Bool.false_and]
    go_enter Tryz.func90, Tryz.ntmps90
    go_wp2
    go_ret
    exact ⟨rfl, rfl⟩

end Go.Proofs.YtodnlcbnbkkanaaGreatDoor
end
section
namespace Go.Proofs.YtodnlcbnbkkanaaGreatDoor
open Go Go.RowKit

set_option maxRecDepth 100000 in
set_option maxHeartbeats 1000000 in
theorem notSym_any (x : SymM) (p : Bool) (K : Nat) (lb : Array Value) (eg : ∀ args w, (callFunc K args).run Tryz.prog w = .ok (.enter K args) w) (B : Nat) (w : World) (hb : w.cell? ⟨B, 0, none⟩ = some (.func (.func K) #[] lb))
    (H : ∀ W, Below w.heap.size w W → Calls Tryz.prog K (#[symV x] ++ lb) W fun e w' => e = .returned (.bool p) ∧ Below W.heap.size W w') :
    Calls Tryz.prog 165 #[symV x, .pointer (some ⟨B, 0, none⟩)] w fun e w' => e = .returned (.bool (!p)) ∧ Below w.heap.size w w' := by
  have hB := lt_of_cell hb
  have HH := Lib.hid H
  clear H
  unfold symV symC at *
  go_enter Tryz.func165, Tryz.ntmps165
  go_wp2_with (refine (HH.out _ ?_).mono ?_)
  · exact ((Below.refl _ _).alloc (Nat.le_refl _) _)
  rintro e w' ⟨rfl, hB2⟩
  go_wp2
  go_ret
  exact ⟨rfl, ((Below.refl _ _).alloc (Nat.le_refl _) _).trans (hB2.mono (by simp))⟩

set_option maxRecDepth 100000 in
set_option maxHeartbeats 4000000 in
theorem indexSym_any (a : Option Addr) (c : Nat) (l : List SymM) (q : SymM → Bool) (K : Nat) (lb : Array Value) (eg : ∀ args w, (callFunc K args).run Tryz.prog w = .ok (.enter K args) w) (w : World)
    (hl : RowSym w a l) (hn : l.length ≤ 1048576) (H : Says symV q l K lb w) :
    Calls Tryz.prog 100 #[.slice a l.length c, .func (.func K) #[] lb] w fun e w' => e = .returned (.int .i64 (firstI q l)) ∧ Below w.heap.size w w' := by
  have HL := Lib.hid hl
  have HH := Lib.hid H
  clear hl H
  obtain ⟨n, hln⟩ : ∃ n, n = l.length := ⟨_, rfl⟩
  rw [← hln] at hn ⊢
  have HN := Lib.hid hln
  clear hln
  go_enter Tryz.func100, Tryz.ntmps100
  go_wp2
  go_loopw [8] (fun i wr => ∃ (m : Nat), i = .int .i64 m ∧ m ≤ n ∧ Hid (∀ (j : Nat) y, j < m → l[j]? = some y → q y = false) ∧ Hid (Below w.heap.size w wr))
    (fun i _ => n - (intOf i).toNat)
  case atStart => exact ⟨0, rfl, Nat.zero_le _, Lib.hid (fun j y hj => by omega), Below.refl _ _⟩
  case round =>
    obtain ⟨m, rfl, hm, hS, hB⟩ := hrel
    by_cases hlt : m < n
    · have HX : Hid (∃ x, l[m]? = some x) := Lib.hid ⟨_, List.getElem?_eq_getElem (by rw [← HN.out]; exact hlt)⟩
      obtain ⟨x, hx⟩ := HX.out
      have HX := Lib.hid hx
      clear hx
      obtain ⟨b, off, rfl, hbw, hc, _⟩ := HL.out m x HX.out
      have hc := hc.below hB.out hbw
      have hbr := Nat.lt_of_lt_of_le hbw hB.out.size

      obtain ⟨c0, c1, c2, c3, c4, c5⟩ := Sym_at hc
      clear hc
      have HC := Lib.hid (HH.out x (List.mem_of_getElem? HX.out) wr hB.out)
      have HQ : Hid (∀ r, q x = r → r = false → ∀ (j : Nat) y, j < m + 1 → l[j]? = some y → q y = false) := Lib.hid (fun r hr hf j y hj hy => by
        by_cases e : j = m
        · subst e
          rw [HX.out] at hy
          cases hy
          rw [hr, hf]
        · exact hS.out j y (by omega) hy)
      have HT : Hid (q x = true → firstI q l = m) := Lib.hid (fun h => firstI_hit q l m x HX.out h hS.out)
      generalize q x = r at HC HQ HT
      clear HX hS HH HL
      unfold symV symC at *
      have n1 : (m : Int) < (n : Int) := by omega
      cases r with
      | true =>
        have HT2 := Lib.hid (HT.out rfl)
        clear HQ HT
        go_wp2_with fail
        refine HC.out.mono ?_
        rintro e w3 ⟨rfl, hB3⟩
        have HB3 := Lib.hid (hB.out.trans (hB3.mono hB.out.size))
        clear hB3
        go_wp2
        go_ret
        exact ⟨by rw [HT2.out]; rfl, HB3.out⟩
      | false =>
        have HQ2 := Lib.hid (HQ.out false rfl rfl)
        clear HT HQ
        go_wp2_with fail
        refine HC.out.mono ?_
        rintro e w3 ⟨rfl, hB3⟩
        have HB3 := Lib.hid (hB.out.trans (hB3.mono hB.out.size))
        clear hB3
        go_wp2
        go_roundw
        case rel => exact ⟨m + 1, by go_num, by omega, HQ2, HB3⟩
        case measure => simp [intOf]; omega
    · obtain rfl : m = n := by omega
      have HT := Lib.hid (firstI_none q l (fun j y hy => hS.out j y (by have := (List.getElem?_eq_some_iff.1 hy).1; have := HN.out; omega) hy))
      clear hS
      go_wp2
      go_ret
      exact ⟨by rw [HT.out]; rfl, hB.out⟩

set_option maxRecDepth 100000 in
set_option maxHeartbeats 1000000 in
theorem containsSym_any (a : Option Addr) (c : Nat) (l : List SymM) (q : SymM → Bool) (K : Nat) (lb : Array Value) (eg : ∀ args w, (callFunc K args).run Tryz.prog w = .ok (.enter K args) w) (w : World)
    (hl : RowSym w a l) (hn : l.length ≤ 1048576) (H : Says symV q l K lb w) :
    Calls Tryz.prog 70 #[.slice a l.length c, .func (.func K) #[] lb] w fun e w' => e = .returned (.bool (l.any q)) ∧ Below w.heap.size w w' := by
  have HC := Lib.hid (indexSym_any a c l q K lb eg w hl hn H)
  have HI := firstI_any q l
  obtain ⟨i, hi⟩ : ∃ i, i = firstI q l := ⟨_, rfl⟩
  rw [← hi] at HC HI
  clear hi hl H
  generalize l.any q = r at HI ⊢
  generalize l.length = n at *
  go_enter Tryz.func70, Tryz.ntmps70
  go_wp2_with fail
  refine HC.out.mono ?_
  rintro e w3 ⟨rfl, hB3⟩
  go_wp2
  go_ret
  exact ⟨rfl, hB3⟩

set_option maxRecDepth 100000 in
set_option maxHeartbeats 1000000 in
theorem allSym_any (a : Option Addr) (c : Nat) (l : List SymM) (p : SymM → Bool) (K : Nat) (lb : Array Value) (eg : ∀ args w, (callFunc K args).run Tryz.prog w = .ok (.enter K args) w) (w : World)
    (hl : RowSym w a l) (hn : l.length ≤ 1048576) (H : Says symV p l K lb w) :
    Calls Tryz.prog 150 #[.slice a l.length c, .func (.func K) #[] lb] w fun e w' => e = .returned (.bool (l.all p)) ∧ Below w.heap.size w w' := by
  have hB1 : Below w.heap.size w (w.alloc (.cells #[.func (.func K) #[] lb] 109)) := (Below.refl _ _).alloc (Nat.le_refl _) _
  have HC := Lib.hid (containsSym_any a c l (fun x => !p x) 165 #[.pointer (some ⟨w.heap.size, 0, none⟩)] (fun _ _ => by kernel_rfl) (w.alloc (.cells #[.func (.func K) #[] lb] 109)) (RowOf.belowN hl hB1) hn (fun x hx W hW =>
    notSym_any x (p x) K lb eg _ W (by have hb := Blk.new w 109 #[.func (.func K) #[] lb]; exact (hb.below hW hb.lt).cell 0) (fun V hV => H x hx V (hB1.trans ((hW.trans (hV.mono hW.size)).mono (by simp))))))
  have HA := any_not p l
  have HB := Lib.hid hB1
  clear hl H hB1
  generalize l.any (fun x => !p x) = r at HC HA
  rw [← HA]
  clear HA
  generalize l.length = n at *
  go_enter Tryz.func150, Tryz.ntmps150
  go_wp2_with fail
  refine HC.out.mono ?_
  rintro e w3 ⟨rfl, hB3⟩
  go_wp2
  go_ret
  exact ⟨rfl, HB.out.trans (hB3.mono HB.out.size)⟩
end Go.Proofs.YtodnlcbnbkkanaaGreatDoor
end
section
namespace Go.Proofs.YtodnlcbnbkkanaaGreatDoor
open Go Go.RowKit

theorem eq_zero (s : BS) (w : World) : (Op.equalIn 10000 47 (.agg #[.int .u64 (wdI s 0), .int .u64 (wdI s 1), .int .u64 (wdI s 2), .int .u64 (wdI s 3)]) (.agg #[.int .u64 0, .int .u64 0, .int .u64 0, .int .u64 0])).run Tryz.prog w = .ok (s == 0#256) w := by
  have h := eq_sets s 0#256 w
  rw [show wdI 0#256 0 = 0 by decide, show wdI 0#256 1 = 0 by decide, show wdI 0#256 2 = 0 by decide, show wdI 0#256 3 = 0 by decide] at h
  exact h

def symB (n : Int) (s : SymM) : Bool := if s.kind = 0 then !(s.set == 0#256) && s.sort == 0 else if s.kind = 1 then s.set == 0#256 && numB s.sort n else false

set_option maxRecDepth 100000 in
set_option maxHeartbeats 1000000 in
theorem symMay_any (s : SymM) (n : Int) (w : World) : Calls Tryz.prog 152 #[symV s, .int .i64 n] w fun e w' => e = .returned (.bool (symB n s)) ∧ Below w.heap.size w w' := by
  obtain ⟨k, st, so⟩ := s
  have hB : Hid (Below w.heap.size w (w.alloc (.cells (symC ⟨k, st, so⟩) 60))) := (Below.refl _ _).alloc (Nat.le_refl _) _
  have HE := fun w' => Lib.hid (eq_zero st w')
  have HN := fun w' => Lib.hid (num_any so n w')
  unfold symV symC at *
  dsimp only at *
  by_cases h0 : k = 0
  · subst h0
    obtain ⟨r1, hr1⟩ : ∃ r, r = (st == 0#256) := ⟨_, rfl⟩
    obtain ⟨r2, hr2⟩ : ∃ r, r = (so == 0) := ⟨_, rfl⟩
    have HX : Hid (symB n ⟨0, st, so⟩ = (!r1 && r2)) := Lib.hid (by unfold symB; rw [if_pos rfl, hr1, hr2])
    rw [← hr1] at HE
    clear hr1
    have HE' := fun w' => (HE w').out
    rw [HX.out]
    cases r1 with
    | true =>
      clear hr2
      go_enter Tryz.func152, Tryz.ntmps152
      go_wp2
      go_ret
      exact ⟨rfl, hB.out⟩
    | false =>
      have hr3 := hr2.symm
      clear hr2
      cases r2 with
      | true =>
        go_enter Tryz.func152, Tryz.ntmps152
        go_wp2
        go_ret
        exact ⟨rfl, hB.out⟩
      | false =>
        go_enter Tryz.func152, Tryz.ntmps152
        go_wp2
        go_ret
        exact ⟨rfl, hB.out⟩
  · have k0 : (k == 0) = false := by simpa using h0
    by_cases h1 : k = 1
    · subst h1
      obtain ⟨r1, hr1⟩ : ∃ r, r = (st == 0#256) := ⟨_, rfl⟩
      have HX : Hid (symB n ⟨1, st, so⟩ = (r1 && numB so n)) := Lib.hid (by unfold symB; rw [if_neg (show ¬ (1 : Int) = 0 by decide), if_pos rfl, hr1])
      rw [← hr1] at HE
      clear hr1 h0
      have HE' := fun w' => (HE w').out
      rw [HX.out]
      generalize numB so n = r2 at *
      cases r1 with
      | true =>
        go_enter Tryz.func152, Tryz.ntmps152
        go_wp2_with (go_at_call 90; refine (HN _).out.mono ?_; rintro e w3 ⟨rfl, rfl⟩)
        go_ret
        exact ⟨rfl, hB.out⟩
      | false =>
        go_enter Tryz.func152, Tryz.ntmps152
        go_wp2
        go_ret
        exact ⟨rfl, hB.out⟩
    · have k1 : (k == 1) = false := by simpa using h1
      have HX : Hid (symB n ⟨k, st, so⟩ = false) := Lib.hid (by unfold symB; rw [if_neg h0, if_neg h1])
      rw [HX.out]
      clear h0 h1 HE HN
      go_enter Tryz.func152, Tryz.ntmps152
      go_wp2
      go_ret
      exact ⟨rfl, hB.out⟩

set_option maxRecDepth 100000 in
set_option maxHeartbeats 1000000 in
theorem f96_any (s : SymM) (n : Int) (B : Nat) (w : World) (hb : w.cell? ⟨B, 0, none⟩ = some (.int .i64 n)) : Calls Tryz.prog 151 #[symV s, .pointer (some ⟨B, 0, none⟩)] w fun e w' => e = .returned (.bool (symB n s)) ∧ Below w.heap.size w w' := by
  have HN := fun w' => Lib.hid (symMay_any s n w')
  have hB := lt_of_cell hb
  have HB : Hid (Below w.heap.size w (w.alloc (.cells (symC s) 60))) := (Below.refl _ _).alloc (Nat.le_refl _) _
  unfold symV symC at *
  generalize symB n s = r at *
  go_enter Tryz.func151, Tryz.ntmps151
  go_wp2_with (go_at_call 152; refine (HN _).out.mono ?_; rintro e w3 ⟨rfl, hB3⟩)
  go_ret
  exact ⟨rfl, HB.out.trans (hB3.mono HB.out.size)⟩

def sortB (p : Int → Bool) (s : SymM) : Bool := !(s.kind == 1) || p s.sort

set_option maxRecDepth 100000 in
set_option maxHeartbeats 1000000 in
theorem f75_any (s : SymM) (p : Int → Bool) (K : Nat) (lb : Array Value) (eg : ∀ args w, (callFunc K args).run Tryz.prog w = .ok (.enter K args) w) (B : Nat) (w : World) (hb : w.cell? ⟨B, 0, none⟩ = some (.func (.func K) #[] lb))
    (H : s.kind = 1 → ∀ W, Below w.heap.size w W → Calls Tryz.prog K (#[.int .i64 s.sort] ++ lb) W fun e w' => e = .returned (.bool (p s.sort)) ∧ Below W.heap.size W w') :
    Calls Tryz.prog 174 #[symV s, .pointer (some ⟨B, 0, none⟩)] w fun e w' => e = .returned (.bool (sortB p s)) ∧ Below w.heap.size w w' := by
  have hB := lt_of_cell hb
  have HB : Hid (Below w.heap.size w (w.alloc (.cells (symC s) 60))) := (Below.refl _ _).alloc (Nat.le_refl _) _
  obtain ⟨k, st, so⟩ := s
  unfold symV symC sortB at *
  dsimp only at *
  by_cases h1 : k = 1
  · subst h1
    have HC := Lib.hid (H rfl _ HB.out)
    clear H
    generalize p so = r at *
    go_enter Tryz.func174, Tryz.ntmps174
    go_wp2_with (refine HC.out.mono ?_)
    rintro e w3 ⟨rfl, hB3⟩
    go_wp2
    go_ret
    exact ⟨by simp, HB.out.trans (hB3.mono HB.out.size)⟩
  · have k1 : (k == 1) = false := by simpa using h1
    have k2 : (k != 1) = true := by simpa using h1
    rw [k1]
    clear h1 H
    go_enter Tryz.func174, Tryz.ntmps174
    go_wp2
    go_ret
    exact ⟨rfl, HB.out⟩

theorem f105_any (n : Int) (w : World) : Calls Tryz.prog 167 #[.int .i64 n] w fun e w' => e = .returned (.bool false) ∧ Below w.heap.size w w' := by
  go_enter Tryz.func167, Tryz.ntmps167
  go_wp2
  go_ret
  exact ⟨rfl, Below.refl _ _⟩

def sortsB (p : Int → Bool) (x : ProdM) : Bool := x.right.all (sortB p)

set_option maxRecDepth 100000 in
set_option maxHeartbeats 1000000 in
theorem eachSort_any (x : ProdM) (p : Int → Bool) (K : Nat) (lb : Array Value) (eg : ∀ args w, (callFunc K args).run Tryz.prog w = .ok (.enter K args) w) (w : World) (hx : ProdIn w x) (hn : x.right.length ≤ 1048576)
    (H : ∀ s, s ∈ x.right → s.kind = 1 → ∀ W, Below w.heap.size w W → Calls Tryz.prog K (#[.int .i64 s.sort] ++ lb) W fun e w' => e = .returned (.bool (p s.sort)) ∧ Below W.heap.size W w') :
    Calls Tryz.prog 166 #[prodV x, .func (.func K) #[] lb] w fun e w' => e = .returned (.bool (sortsB p x)) ∧ Below w.heap.size w w' := by
  have hB1 : Below w.heap.size w ((w.alloc (.cells (prodC x) 65)).alloc (.cells #[.func (.func K) #[] lb] 67)) := ((Below.refl _ _).alloc (Nat.le_refl _) _).alloc (by simp) _
  have HC := Lib.hid (allSym_any x.ra x.rc x.right (sortB p) 174 #[.pointer (some ⟨w.heap.size + 1, 0, none⟩)] (fun _ _ => by kernel_rfl) ((w.alloc (.cells (prodC x) 65)).alloc (.cells #[.func (.func K) #[] lb] 67)) (hx.below hB1) hn (fun s hs W hW =>
    f75_any s p K lb eg (w.heap.size + 1) W (by
      have hb := Blk.new (w.alloc (.cells (prodC x) 65)) 67 #[.func (.func K) #[] lb]
      rw [World.size_alloc] at hb
      exact (hb.below hW hb.lt).cell 0) (fun hk V hV => H s hs hk V (hB1.trans ((hW.trans (hV.mono hW.size)).mono (by simp; omega))))))
  have HB := Lib.hid hB1
  clear hx H hB1
  unfold sortsB
  unfold prodV prodC at *
  generalize x.right.all (sortB p) = r at *
  generalize x.right.length = n at *
  go_enter Tryz.func166, Tryz.ntmps166
  go_wp2_with fail
  refine HC.out.mono ?_
  rintro e w3 ⟨rfl, hB3⟩
  go_wp2
  go_ret
  exact ⟨rfl, HB.out.trans (hB3.mono HB.out.size)⟩
end Go.Proofs.YtodnlcbnbkkanaaGreatDoor
end
section
namespace Go.Proofs.YtodnlcbnbkkanaaGreatDoor
open Go Go.RowKit

set_option maxRecDepth 100000 in
set_option maxHeartbeats 1000000 in
theorem notProd_any (x : ProdM) (p : Bool) (K : Nat) (lb : Array Value) (eg : ∀ args w, (callFunc K args).run Tryz.prog w = .ok (.enter K args) w) (B : Nat) (w : World) (hb : w.cell? ⟨B, 0, none⟩ = some (.func (.func K) #[] lb))
    (H : ∀ W, Below w.heap.size w W → Calls Tryz.prog K (#[prodV x] ++ lb) W fun e w' => e = .returned (.bool p) ∧ Below W.heap.size W w') :
    Calls Tryz.prog 149 #[prodV x, .pointer (some ⟨B, 0, none⟩)] w fun e w' => e = .returned (.bool (!p)) ∧ Below w.heap.size w w' := by
  have hB := lt_of_cell hb
  have HH := Lib.hid H
  clear H
  unfold prodV prodC at *
  go_enter Tryz.func149, Tryz.ntmps149
  go_wp2_with (refine (HH.out _ ?_).mono ?_)
  · exact ((Below.refl _ _).alloc (Nat.le_refl _) _)
  rintro e w' ⟨rfl, hB2⟩
  go_wp2
  go_ret
  exact ⟨rfl, ((Below.refl _ _).alloc (Nat.le_refl _) _).trans (hB2.mono (by simp))⟩

set_option maxRecDepth 100000 in
set_option maxHeartbeats 4000000 in
theorem indexProd_any (a : Option Addr) (c : Nat) (l : List ProdM) (q : ProdM → Bool) (K : Nat) (lb : Array Value) (eg : ∀ args w, (callFunc K args).run Tryz.prog w = .ok (.enter K args) w) (w : World)
    (hl : RowProd w a l) (hn : l.length ≤ 1048576) (H : Says prodV q l K lb w) :
    Calls Tryz.prog 133 #[.slice a l.length c, .func (.func K) #[] lb] w fun e w' => e = .returned (.int .i64 (firstI q l)) ∧ Below w.heap.size w w' := by
  have HL := Lib.hid hl
  have HH := Lib.hid H
  clear hl H
  obtain ⟨n, hln⟩ : ∃ n, n = l.length := ⟨_, rfl⟩
  rw [← hln] at hn ⊢
  have HN := Lib.hid hln
  clear hln
  go_enter Tryz.func133, Tryz.ntmps133
  go_wp2
  go_loopw [8] (fun i wr => ∃ (m : Nat), i = .int .i64 m ∧ m ≤ n ∧ Hid (∀ (j : Nat) y, j < m → l[j]? = some y → q y = false) ∧ Hid (Below w.heap.size w wr))
    (fun i _ => n - (intOf i).toNat)
  case atStart => exact ⟨0, rfl, Nat.zero_le _, Lib.hid (fun j y hj => by omega), Below.refl _ _⟩
  case round =>
    obtain ⟨m, rfl, hm, hS, hB⟩ := hrel
    by_cases hlt : m < n
    · have HX : Hid (∃ x, l[m]? = some x) := Lib.hid ⟨_, List.getElem?_eq_getElem (by rw [← HN.out]; exact hlt)⟩
      obtain ⟨x, hx⟩ := HX.out
      have HX := Lib.hid hx
      clear hx
      obtain ⟨b, off, rfl, hbw, hc, _⟩ := HL.out m x HX.out
      have hc := hc.below hB.out hbw
      have hbr := Nat.lt_of_lt_of_le hbw hB.out.size

      obtain ⟨c0, c1, c2, c3, c4, c5, c6⟩ := Prod_at hc
      clear hc
      have HC := Lib.hid (HH.out x (List.mem_of_getElem? HX.out) wr hB.out)
      have HQ : Hid (∀ r, q x = r → r = false → ∀ (j : Nat) y, j < m + 1 → l[j]? = some y → q y = false) := Lib.hid (fun r hr hf j y hj hy => by
        by_cases e : j = m
        · subst e
          rw [HX.out] at hy
          cases hy
          rw [hr, hf]
        · exact hS.out j y (by omega) hy)
      have HT : Hid (q x = true → firstI q l = m) := Lib.hid (fun h => firstI_hit q l m x HX.out h hS.out)
      generalize q x = r at HC HQ HT
      clear HX hS HH HL
      unfold prodV prodC at *
      have n1 : (m : Int) < (n : Int) := by omega
      cases r with
      | true =>
        have HT2 := Lib.hid (HT.out rfl)
        clear HQ HT
        go_wp2_with fail
        refine HC.out.mono ?_
        rintro e w3 ⟨rfl, hB3⟩
        have HB3 := Lib.hid (hB.out.trans (hB3.mono hB.out.size))
        clear hB3
        go_wp2
        go_ret
        exact ⟨by rw [HT2.out]; rfl, HB3.out⟩
      | false =>
        have HQ2 := Lib.hid (HQ.out false rfl rfl)
        clear HT HQ
        go_wp2_with fail
        refine HC.out.mono ?_
        rintro e w3 ⟨rfl, hB3⟩
        have HB3 := Lib.hid (hB.out.trans (hB3.mono hB.out.size))
        clear hB3
        go_wp2
        go_roundw
        case rel => exact ⟨m + 1, by go_num, by omega, HQ2, HB3⟩
        case measure => simp [intOf]; omega
    · obtain rfl : m = n := by omega
      have HT := Lib.hid (firstI_none q l (fun j y hy => hS.out j y (by have := (List.getElem?_eq_some_iff.1 hy).1; have := HN.out; omega) hy))
      clear hS
      go_wp2
      go_ret
      exact ⟨by rw [HT.out]; rfl, hB.out⟩

set_option maxRecDepth 100000 in
set_option maxHeartbeats 1000000 in
theorem containsProd_any (a : Option Addr) (c : Nat) (l : List ProdM) (q : ProdM → Bool) (K : Nat) (lb : Array Value) (eg : ∀ args w, (callFunc K args).run Tryz.prog w = .ok (.enter K args) w) (w : World)
    (hl : RowProd w a l) (hn : l.length ≤ 1048576) (H : Says prodV q l K lb w) :
    Calls Tryz.prog 148 #[.slice a l.length c, .func (.func K) #[] lb] w fun e w' => e = .returned (.bool (l.any q)) ∧ Below w.heap.size w w' := by
  have HC := Lib.hid (indexProd_any a c l q K lb eg w hl hn H)
  have HI := firstI_any q l
  obtain ⟨i, hi⟩ : ∃ i, i = firstI q l := ⟨_, rfl⟩
  rw [← hi] at HC HI
  clear hi hl H
  generalize l.any q = r at HI ⊢
  generalize l.length = n at *
  go_enter Tryz.func148, Tryz.ntmps148
  go_wp2_with fail
  refine HC.out.mono ?_
  rintro e w3 ⟨rfl, hB3⟩
  go_wp2
  go_ret
  exact ⟨rfl, hB3⟩

set_option maxRecDepth 100000 in
set_option maxHeartbeats 1000000 in
theorem allProd_any (a : Option Addr) (c : Nat) (l : List ProdM) (p : ProdM → Bool) (K : Nat) (lb : Array Value) (eg : ∀ args w, (callFunc K args).run Tryz.prog w = .ok (.enter K args) w) (w : World)
    (hl : RowProd w a l) (hn : l.length ≤ 1048576) (H : Says prodV p l K lb w) :
    Calls Tryz.prog 125 #[.slice a l.length c, .func (.func K) #[] lb] w fun e w' => e = .returned (.bool (l.all p)) ∧ Below w.heap.size w w' := by
  have hB1 : Below w.heap.size w (w.alloc (.cells #[.func (.func K) #[] lb] 91)) := (Below.refl _ _).alloc (Nat.le_refl _) _
  have HC := Lib.hid (containsProd_any a c l (fun x => !p x) 149 #[.pointer (some ⟨w.heap.size, 0, none⟩)] (fun _ _ => by kernel_rfl) (w.alloc (.cells #[.func (.func K) #[] lb] 91)) (RowProd.below hl hB1) hn (fun x hx W hW =>
    notProd_any x (p x) K lb eg _ W (by have hb := Blk.new w 91 #[.func (.func K) #[] lb]; exact (hb.below hW hb.lt).cell 0) (fun V hV => H x hx V (hB1.trans ((hW.trans (hV.mono hW.size)).mono (by simp))))))
  have HA := any_not p l
  have HB := Lib.hid hB1
  clear hl H hB1
  generalize l.any (fun x => !p x) = r at HC HA
  rw [← HA]
  clear HA
  generalize l.length = n at *
  go_enter Tryz.func125, Tryz.ntmps125
  go_wp2_with fail
  refine HC.out.mono ?_
  rintro e w3 ⟨rfl, hB3⟩
  go_wp2
  go_ret
  exact ⟨rfl, HB.out.trans (hB3.mono HB.out.size)⟩
end Go.Proofs.YtodnlcbnbkkanaaGreatDoor
end
section
namespace Go.Proofs.YtodnlcbnbkkanaaGreatDoor
open Go Go.RowKit

def roleB (x : ProdM) : Bool := if x.role < 0 then false else if 11 < x.role then false else if x.role = 0 then decide (x.cons.size ≤ 64) else if x.role = 11 ∧ sortsB (fun _ => false) x = false then false else x.cons.toList.isEmpty

set_option maxRecDepth 100000 in
set_option maxHeartbeats 2000000 in
theorem role_any (x : ProdM) (w : World) (hx : ProdIn w x) (hn : x.right.length ≤ 1048576) : Calls Tryz.prog 153 #[prodV x] w fun e w' => e = .returned (.bool (roleB x)) ∧ Below w.heap.size w w' := by
  have hB1 : Below w.heap.size w (w.alloc (.cells (prodC x) 65)) := (Below.refl _ _).alloc (Nat.le_refl _) _
  have HC := Lib.hid (eachSort_any x (fun _ => false) 167 #[] (fun _ _ => by kernel_rfl) _ (hx.below hB1) hn (fun s hs hk W hW => f105_any s.sort W))
  have HB := Lib.hid hB1
  have HR : Hid (roleB x = if x.role < 0 then false else if 11 < x.role then false else if x.role = 0 then decide (x.cons.size ≤ 64) else if x.role = 11 ∧ sortsB (fun _ => false) x = false then false else x.cons.toList.isEmpty) := Lib.hid rfl
  clear hx hB1 hn
  unfold prodV at *
  generalize sortsB (fun _ => false) x = rs at *
  generalize roleB x = r at *
  obtain ⟨left, ra, rc, right, cons, role, prefer, avoid, frm⟩ := x
  unfold prodC at *
  dsimp only at *
  generalize right.length = n at *
  by_cases h0 : role < 0
  · have HR2 : Hid (r = false) := Lib.hid (by rw [HR.out, if_pos h0])
    clear HR HC
    go_enter Tryz.func153, Tryz.ntmps153
    go_wp2
    go_ret
    exact ⟨by rw [HR2.out]; try rfl, HB.out⟩
  · by_cases h1 : 11 < role
    · have HR2 : Hid (r = false) := Lib.hid (by rw [HR.out, if_neg h0, if_pos h1])
      clear HR HC
      go_enter Tryz.func153, Tryz.ntmps153
      go_wp2
      go_ret
      exact ⟨by rw [HR2.out]; try rfl, HB.out⟩
    · by_cases h2 : role = 0
      · subst h2
        by_cases h3 : cons.size ≤ 64
        · have HR2 : Hid (r = true) := Lib.hid (by rw [HR.out, if_neg h0, if_neg h1, if_pos rfl]; simpa using h3)
          clear HR HC
          have h4 : (cons.size : Int) ≤ 64 := by omega
          go_enter Tryz.func153, Tryz.ntmps153
          go_wp2
          go_ret
          exact ⟨by rw [HR2.out]; try rfl, HB.out⟩
        · have HR2 : Hid (r = false) := Lib.hid (by rw [HR.out, if_neg h0, if_neg h1, if_pos rfl]; simpa using h3)
          clear HR HC
          have h4 : ¬ (cons.size : Int) ≤ 64 := by omega
          go_enter Tryz.func153, Tryz.ntmps153
          go_wp2
          go_ret
          exact ⟨by rw [HR2.out]; try rfl, HB.out⟩
      · have k0 : (role == 0) = false := by simpa using h2
        by_cases h3 : role = 11
        · subst h3
          cases rs with
          | false =>
            have HR2 : Hid (r = false) := Lib.hid (by rw [HR.out, if_neg h0, if_neg h1, if_neg h2, if_pos ⟨rfl, rfl⟩])
            clear HR h2
            go_enter Tryz.func153, Tryz.ntmps153
            go_wp2_with fail
            refine HC.out.mono ?_
            rintro e w3 ⟨rfl, hB3⟩
            have HB3 := Lib.hid (HB.out.trans (hB3.mono HB.out.size))
            clear hB3
            go_wp2
            go_ret
            exact ⟨by rw [HR2.out]; try rfl, HB3.out⟩
          | true =>
            have HR2 : Hid (r = cons.toList.isEmpty) := Lib.hid (by rw [HR.out, if_neg h0, if_neg h1, if_neg h2, if_neg (fun h => by cases h.2)])
            clear HR h2
            go_enter Tryz.func153, Tryz.ntmps153
            go_wp2_with fail
            refine HC.out.mono ?_
            rintro e w3 ⟨rfl, hB3⟩
            have HB3 := Lib.hid (HB.out.trans (hB3.mono HB.out.size))
            have c2 : w3.cell? ⟨w.heap.size, 2, none⟩ = some (.string cons) := hB3.cell (p := ⟨w.heap.size, 2, none⟩) (by simp) |>.trans ((Blk.new w 65 _).cell 2)
            clear hB3
            go_wp2
            go_ret
            exact ⟨by rw [HR2.out]; try rfl, HB3.out⟩
        · have k1 : (role == 11) = false := by simpa using h3
          have HR2 : Hid (r = cons.toList.isEmpty) := Lib.hid (by rw [HR.out, if_neg h0, if_neg h1, if_neg h2, if_neg (fun h => h3 h.1)])
          clear HR h2 h3 HC
          go_enter Tryz.func153, Tryz.ntmps153
          go_wp2
          go_ret
          exact ⟨by rw [HR2.out]; try rfl, HB.out⟩

def prodB (n : Int) (x : ProdM) : Bool := numB x.left n && (decide (x.right.length ≤ 30) && (x.right.all (symB n) && (roleB x && (decide (-1 ≤ x.frm) && !(x.prefer && x.avoid)))))

set_option maxRecDepth 100000 in
set_option maxHeartbeats 4000000 in
theorem prodMay_any (x : ProdM) (m : Int) (w : World) (hx : ProdIn w x) (hn : x.right.length ≤ 1048576) : Calls Tryz.prog 127 #[prodV x, .int .i64 m] w fun e w' => e = .returned (.bool (prodB m x)) ∧ Below w.heap.size w w' := by
  have hB1 : Below w.heap.size w ((w.alloc (.cells (prodC x) 65)).alloc (.cells #[.int .i64 m] 3)) := ((Below.refl _ _).alloc (Nat.le_refl _) _).alloc (by simp) _
  have HS := Lib.hid (allSym_any x.ra x.rc x.right (symB m) 151 #[.pointer (some ⟨w.heap.size + 1, 0, none⟩)] (fun _ _ => by kernel_rfl) _ (hx.below hB1) hn (fun s hs W hW =>
    f96_any s m (w.heap.size + 1) W (by
      have hb := Blk.new (w.alloc (.cells (prodC x) 65)) 3 #[.int .i64 m]
      rw [World.size_alloc] at hb
      exact (hb.below hW hb.lt).cell 0)))
  have HR := Lib.hid (fun W (hW : Below w.heap.size w W) => role_any x W (hx.below hW) hn)
  have HN := fun w' => Lib.hid (num_any x.left m w')
  have HB := Lib.hid hB1
  have HP : Hid (prodB m x = (numB x.left m && (decide (x.right.length ≤ 30) && (x.right.all (symB m) && (roleB x && (decide (-1 ≤ x.frm) && !(x.prefer && x.avoid))))))) := Lib.hid rfl
  clear hx hB1 hn
  unfold prodV at *
  generalize x.right.all (symB m) = rs at *
  generalize roleB x = rr at *
  generalize prodB m x = r at *
  obtain ⟨left, ra, rc, right, cons, role, prefer, avoid, frm⟩ := x
  unfold prodC at *
  dsimp only at *
  generalize right.length = n at *
  generalize numB left m = rn at *
  cases rn with
  | false =>
    have HP2 : Hid (r = false) := Lib.hid (by rw [HP.out]; rfl)
    clear HP HS HR
    go_enter Tryz.func127, Tryz.ntmps127
    go_wp2_with (go_at_call 90; refine (HN _).out.mono ?_; rintro e w3 ⟨rfl, rfl⟩)
    go_ret
    exact ⟨by rw [HP2.out]; try rfl, HB.out⟩
  | true =>
    by_cases h1 : n ≤ 30
    · have h2 : decide (n ≤ 30) = true := by simpa using h1
      have hi : (n : Int) ≤ 30 := by omega
      have HP2 : Hid (r = (rs && (rr && (decide (-1 ≤ frm) && !(prefer && avoid))))) := Lib.hid (by rw [HP.out, h2, Bool.true_and, Bool.true_and])
      clear HP h2
      cases rs with
      | false =>
        have HP3 : Hid (r = false) := Lib.hid (by rw [HP2.out]; rfl)
        clear HP2 HR
        go_enter Tryz.func127, Tryz.ntmps127
        go_wp2_with (go_at_call 90; refine (HN _).out.mono ?_; rintro e w3 ⟨rfl, rfl⟩)
        refine HS.out.mono ?_
        rintro e w4 ⟨rfl, hB4⟩
        have HB4 := Lib.hid (HB.out.trans (hB4.mono HB.out.size))
        clear hB4
        go_wp2
        go_ret
        exact ⟨by rw [HP3.out]; try rfl, HB4.out⟩
      | true =>
        have hP : ∀ (w4 : World), Below ((w.alloc (.cells #[.int .i64 left, .slice ra n rc, .string cons, .int .i64 role, .bool prefer, .bool avoid, .int .i64 frm] 65)).alloc (.cells #[.int .i64 m] 3)).heap.size ((w.alloc (.cells #[.int .i64 left, .slice ra n rc, .string cons, .int .i64 role, .bool prefer, .bool avoid, .int .i64 frm] 65)).alloc (.cells #[.int .i64 m] 3)) w4 →
            Blk w4 w.heap.size 65 #[.int .i64 left, .slice ra n rc, .string cons, .int .i64 role, .bool prefer, .bool avoid, .int .i64 frm] := fun w4 h => ((Blk.new w 65 _).alloc _).below h (by simp; omega)
        have HPb := Lib.hid hP
        clear hP
        cases rr with
        | false =>
          have HP3 : Hid (r = false) := Lib.hid (by rw [HP2.out]; rfl)
          clear HP2
          go_enter Tryz.func127, Tryz.ntmps127
          go_wp2_with (go_at_call 90; refine (HN _).out.mono ?_; rintro e w3 ⟨rfl, rfl⟩)
          refine HS.out.mono ?_
          rintro e w4 ⟨rfl, hB4⟩
          have hb := HPb.out w4 hB4
          have HB4 := Lib.hid (HB.out.trans (hB4.mono HB.out.size))
          have c0 := hb.cell 0
          have c1 := hb.cell 1
          have c2 := hb.cell 2
          have c3 := hb.cell 3
          have c4 := hb.cell 4
          have c5 := hb.cell 5
          have c6 := hb.cell 6
          simp only [List.getElem?_toArray, List.getElem?_cons_zero, List.getElem?_cons_succ] at c0 c1 c2 c3 c4 c5 c6
          clear hB4 hb
          go_wp2_with (go_at_call 153; refine (HR.out _ HB4.out).mono ?_; rintro e w5 ⟨rfl, hB5⟩)
          have HB5 := Lib.hid (HB4.out.trans (hB5.mono HB4.out.size))
          clear hB5
          go_wp2
          go_ret
          exact ⟨by rw [HP3.out]; try rfl, HB5.out⟩
        | true =>
          have HP3 : Hid (r = (decide (-1 ≤ frm) && !(prefer && avoid))) := Lib.hid (by rw [HP2.out]; rfl)
          clear HP2
          go_enter Tryz.func127, Tryz.ntmps127
          go_wp2_with (go_at_call 90; refine (HN _).out.mono ?_; rintro e w3 ⟨rfl, rfl⟩)
          refine HS.out.mono ?_
          rintro e w4 ⟨rfl, hB4⟩
          have hb := HPb.out w4 hB4
          have HB4 := Lib.hid (HB.out.trans (hB4.mono HB.out.size))
          have c0 := hb.cell 0
          have c1 := hb.cell 1
          have c2 := hb.cell 2
          have c3 := hb.cell 3
          have c4 := hb.cell 4
          have c5 := hb.cell 5
          have c6 := hb.cell 6
          have hw4 := hb.lt
          simp only [List.getElem?_toArray, List.getElem?_cons_zero, List.getElem?_cons_succ] at c0 c1 c2 c3 c4 c5 c6
          clear hB4
          have HR4 := Lib.hid (HR.out _ HB4.out)
          clear HR
          have HBk := Lib.hid hb
          clear hb
          go_wp2_with fail
          refine HR4.out.mono ?_
          rintro e w5 ⟨rfl, hB5⟩
          have hb := HBk.out.below hB5 HBk.out.lt
          have d4 := hb.cell 4
          have d5 := hb.cell 5
          have d6 := hb.cell 6
          simp only [List.getElem?_toArray, List.getElem?_cons_zero, List.getElem?_cons_succ] at d4 d5 d6
          have HB5 := Lib.hid (HB4.out.trans (hB5.mono HB4.out.size))
          clear hB5 hb c0 c1 c2 c3 c4 c5 c6
          by_cases h3 : -1 ≤ frm
          · have h4 : decide (-1 ≤ frm) = true := by simpa using h3
            have HP4 : Hid (r = !(prefer && avoid)) := Lib.hid (by rw [HP3.out, h4, Bool.true_and])
            clear HP3 h4
            cases prefer with
            | false =>
              go_wp2
              go_ret
              exact ⟨by rw [HP4.out]; try rfl, HB5.out⟩
            | true =>
              cases avoid with
              | false =>
                go_wp2
                go_ret
                exact ⟨by rw [HP4.out]; try rfl, HB5.out⟩
              | true =>
                go_wp2
                go_ret
                exact ⟨by rw [HP4.out]; try rfl, HB5.out⟩
          · have h4 : decide (-1 ≤ frm) = false := by simpa using h3
            have HP4 : Hid (r = false) := Lib.hid (by rw [HP3.out, h4, Bool.false_and])
            clear HP3
            go_wp2
            go_ret
            exact ⟨by rw [HP4.out]; try rfl, HB5.out⟩
    · have h2 : decide (n ≤ 30) = false := by simpa using h1
      have HP2 : Hid (r = false) := Lib.hid (by rw [HP.out, h2]; rfl)
      have hi : ¬ (n : Int) ≤ 30 := by omega
      clear HP HS HR h1 h2
      go_enter Tryz.func127, Tryz.ntmps127
      go_wp2_with (go_at_call 90; refine (HN _).out.mono ?_; rintro e w3 ⟨rfl, rfl⟩)
      go_ret
      exact ⟨by rw [HP2.out]; try rfl, HB.out⟩
end Go.Proofs.YtodnlcbnbkkanaaGreatDoor
end
section
namespace Go.Proofs.YtodnlcbnbkkanaaGreatDoor
open Go Go.RowKit

set_option maxRecDepth 100000 in
set_option maxHeartbeats 1000000 in
theorem notFor_any (x : ForM) (p : Bool) (K : Nat) (lb : Array Value) (eg : ∀ args w, (callFunc K args).run Tryz.prog w = .ok (.enter K args) w) (B : Nat) (w : World) (hb : w.cell? ⟨B, 0, none⟩ = some (.func (.func K) #[] lb))
    (H : ∀ W, Below w.heap.size w W → Calls Tryz.prog K (#[forV x] ++ lb) W fun e w' => e = .returned (.bool p) ∧ Below W.heap.size W w') :
    Calls Tryz.prog 155 #[forV x, .pointer (some ⟨B, 0, none⟩)] w fun e w' => e = .returned (.bool (!p)) ∧ Below w.heap.size w w' := by
  have hB := lt_of_cell hb
  have HH := Lib.hid H
  clear H
  unfold forV forC at *
  go_enter Tryz.func155, Tryz.ntmps155
  go_wp2_with (refine (HH.out _ ?_).mono ?_)
  · exact ((Below.refl _ _).alloc (Nat.le_refl _) _)
  rintro e w' ⟨rfl, hB2⟩
  go_wp2
  go_ret
  exact ⟨rfl, ((Below.refl _ _).alloc (Nat.le_refl _) _).trans (hB2.mono (by simp))⟩

set_option maxRecDepth 100000 in
set_option maxHeartbeats 4000000 in
theorem indexFor_any (a : Option Addr) (c : Nat) (l : List ForM) (q : ForM → Bool) (K : Nat) (lb : Array Value) (eg : ∀ args w, (callFunc K args).run Tryz.prog w = .ok (.enter K args) w) (w : World)
    (hl : RowFor w a l) (hn : l.length ≤ 1048576) (H : Says forV q l K lb w) :
    Calls Tryz.prog 168 #[.slice a l.length c, .func (.func K) #[] lb] w fun e w' => e = .returned (.int .i64 (firstI q l)) ∧ Below w.heap.size w w' := by
  have HL := Lib.hid hl
  have HH := Lib.hid H
  clear hl H
  obtain ⟨n, hln⟩ : ∃ n, n = l.length := ⟨_, rfl⟩
  rw [← hln] at hn ⊢
  have HN := Lib.hid hln
  clear hln
  go_enter Tryz.func168, Tryz.ntmps168
  go_wp2
  go_loopw [8] (fun i wr => ∃ (m : Nat), i = .int .i64 m ∧ m ≤ n ∧ Hid (∀ (j : Nat) y, j < m → l[j]? = some y → q y = false) ∧ Hid (Below w.heap.size w wr))
    (fun i _ => n - (intOf i).toNat)
  case atStart => exact ⟨0, rfl, Nat.zero_le _, Lib.hid (fun j y hj => by omega), Below.refl _ _⟩
  case round =>
    obtain ⟨m, rfl, hm, hS, hB⟩ := hrel
    by_cases hlt : m < n
    · have HX : Hid (∃ x, l[m]? = some x) := Lib.hid ⟨_, List.getElem?_eq_getElem (by rw [← HN.out]; exact hlt)⟩
      obtain ⟨x, hx⟩ := HX.out
      have HX := Lib.hid hx
      clear hx
      obtain ⟨b, off, rfl, hbw, hc, _⟩ := HL.out m x HX.out
      have hc := hc.below hB.out hbw
      have hbr := Nat.lt_of_lt_of_le hbw hB.out.size

      obtain ⟨c0, c1, c2⟩ := For_at hc
      clear hc
      have HC := Lib.hid (HH.out x (List.mem_of_getElem? HX.out) wr hB.out)
      have HQ : Hid (∀ r, q x = r → r = false → ∀ (j : Nat) y, j < m + 1 → l[j]? = some y → q y = false) := Lib.hid (fun r hr hf j y hj hy => by
        by_cases e : j = m
        · subst e
          rw [HX.out] at hy
          cases hy
          rw [hr, hf]
        · exact hS.out j y (by omega) hy)
      have HT : Hid (q x = true → firstI q l = m) := Lib.hid (fun h => firstI_hit q l m x HX.out h hS.out)
      generalize q x = r at HC HQ HT
      clear HX hS HH HL
      unfold forV forC at *
      have n1 : (m : Int) < (n : Int) := by omega
      cases r with
      | true =>
        have HT2 := Lib.hid (HT.out rfl)
        clear HQ HT
        go_wp2_with fail
        refine HC.out.mono ?_
        rintro e w3 ⟨rfl, hB3⟩
        have HB3 := Lib.hid (hB.out.trans (hB3.mono hB.out.size))
        clear hB3
        go_wp2
        go_ret
        exact ⟨by rw [HT2.out]; rfl, HB3.out⟩
      | false =>
        have HQ2 := Lib.hid (HQ.out false rfl rfl)
        clear HT HQ
        go_wp2_with fail
        refine HC.out.mono ?_
        rintro e w3 ⟨rfl, hB3⟩
        have HB3 := Lib.hid (hB.out.trans (hB3.mono hB.out.size))
        clear hB3
        go_wp2
        go_roundw
        case rel => exact ⟨m + 1, by go_num, by omega, HQ2, HB3⟩
        case measure => simp [intOf]; omega
    · obtain rfl : m = n := by omega
      have HT := Lib.hid (firstI_none q l (fun j y hy => hS.out j y (by have := (List.getElem?_eq_some_iff.1 hy).1; have := HN.out; omega) hy))
      clear hS
      go_wp2
      go_ret
      exact ⟨by rw [HT.out]; rfl, hB.out⟩

set_option maxRecDepth 100000 in
set_option maxHeartbeats 1000000 in
theorem containsFor_any (a : Option Addr) (c : Nat) (l : List ForM) (q : ForM → Bool) (K : Nat) (lb : Array Value) (eg : ∀ args w, (callFunc K args).run Tryz.prog w = .ok (.enter K args) w) (w : World)
    (hl : RowFor w a l) (hn : l.length ≤ 1048576) (H : Says forV q l K lb w) :
    Calls Tryz.prog 154 #[.slice a l.length c, .func (.func K) #[] lb] w fun e w' => e = .returned (.bool (l.any q)) ∧ Below w.heap.size w w' := by
  have HC := Lib.hid (indexFor_any a c l q K lb eg w hl hn H)
  have HI := firstI_any q l
  obtain ⟨i, hi⟩ : ∃ i, i = firstI q l := ⟨_, rfl⟩
  rw [← hi] at HC HI
  clear hi hl H
  generalize l.any q = r at HI ⊢
  generalize l.length = n at *
  go_enter Tryz.func154, Tryz.ntmps154
  go_wp2_with fail
  refine HC.out.mono ?_
  rintro e w3 ⟨rfl, hB3⟩
  go_wp2
  go_ret
  exact ⟨rfl, hB3⟩

set_option maxRecDepth 100000 in
set_option maxHeartbeats 1000000 in
theorem allFor_any (a : Option Addr) (c : Nat) (l : List ForM) (p : ForM → Bool) (K : Nat) (lb : Array Value) (eg : ∀ args w, (callFunc K args).run Tryz.prog w = .ok (.enter K args) w) (w : World)
    (hl : RowFor w a l) (hn : l.length ≤ 1048576) (H : Says forV p l K lb w) :
    Calls Tryz.prog 129 #[.slice a l.length c, .func (.func K) #[] lb] w fun e w' => e = .returned (.bool (l.all p)) ∧ Below w.heap.size w w' := by
  have hB1 : Below w.heap.size w (w.alloc (.cells #[.func (.func K) #[] lb] 176)) := (Below.refl _ _).alloc (Nat.le_refl _) _
  have HC := Lib.hid (containsFor_any a c l (fun x => !p x) 155 #[.pointer (some ⟨w.heap.size, 0, none⟩)] (fun _ _ => by kernel_rfl) (w.alloc (.cells #[.func (.func K) #[] lb] 176)) (RowOf.belowN hl hB1) hn (fun x hx W hW =>
    notFor_any x (p x) K lb eg _ W (by have hb := Blk.new w 176 #[.func (.func K) #[] lb]; exact (hb.below hW hb.lt).cell 0) (fun V hV => H x hx V (hB1.trans ((hW.trans (hV.mono hW.size)).mono (by simp))))))
  have HA := any_not p l
  have HB := Lib.hid hB1
  clear hl H hB1
  generalize l.any (fun x => !p x) = r at HC HA
  rw [← HA]
  clear HA
  generalize l.length = n at *
  go_enter Tryz.func129, Tryz.ntmps129
  go_wp2_with fail
  refine HC.out.mono ?_
  rintro e w3 ⟨rfl, hB3⟩
  go_wp2
  go_ret
  exact ⟨rfl, HB.out.trans (hB3.mono HB.out.size)⟩
end Go.Proofs.YtodnlcbnbkkanaaGreatDoor
end
