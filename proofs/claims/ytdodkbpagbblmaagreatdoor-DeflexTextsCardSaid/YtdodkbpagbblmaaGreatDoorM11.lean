import Derived.OrdersHeld
import Derived.Deep.RegionHeld3
import Derived.BigQuiet
import Derived.Deep.QuietTactic
import Derived.Test.YtdodkbpagbblmaaGreatDoorM6
import Derived.Test.YtdodkbpagbblmaaGreatDoorM8
import Derived.Test.YtdodkbpagbblmaaGreatDoorM10
section
namespace Go.Vals
open Go

/-- The values laid into an act's slots, one behind another. -/
def putL : Array Value → List (Option Tmp) → List Value → Array Value
  | s, some d :: ds, v :: vs => putL (s.setIfInBounds d v) ds vs
  | s, none :: ds, _ :: vs => putL s ds vs
  | s, _, _ => s

theorem putL_size : ∀ (ds : List (Option Tmp)) (vs : List Value) (s : Array Value), (putL s ds vs).size = s.size
  | [], _, _ => rfl
  | _ :: _, [], s => by unfold putL; split <;> simp_all
  | some d :: ds, v :: vs, s => by simp only [putL]; rw [putL_size ds vs]; simp
  | none :: ds, v :: vs, s => by simp only [putL]; rw [putL_size ds vs]

theorem putL_off {t : Tmp} : ∀ (ds : List (Option Tmp)) (vs : List Value) (s : Array Value), some t ∉ ds → (putL s ds vs)[t]? = s[t]?
  | [], _, _, _ => rfl
  | _ :: _, [], s, _ => by unfold putL; split <;> simp_all
  | some d :: ds, v :: vs, s, h => by
    simp only [putL]
    rw [putL_off ds vs _ (fun hm => h (List.mem_cons_of_mem _ hm)), Array.getElem?_setIfInBounds_ne (fun e => h (by subst e; simp))]
  | none :: ds, v :: vs, s, h => by
    simp only [putL]
    exact putL_off ds vs _ (fun hm => h (List.mem_cons_of_mem _ hm))

/-- What a region's slots hold: the loose ones meet p, the others are F's. -/
def Kn (F : Array Value) (loose : List Tmp) (p : Tmp → Value → World → Prop) (t : Tmp) (v : Value) (w : World) : Prop :=
  (t ∈ loose ∧ p t v w) ∨ (t ∉ loose ∧ F[t]? = some v)

def Knows (K : Tmp → Value → World → Prop) (l : List Tmp) (a : Act) (w : World) : Prop := ∀ t ∈ l, ∃ v, a.tmps[t]? = some v ∧ K t v w
def Puts (K : Tmp → Value → World → Prop) (o : Oper) (v : Value) (w : World) : Prop := ∀ d, o.dst = some d → K d v w

/-- What becomes of an operation: it gives a value of its kind, the worlds being related. -/
def Gives (P : Program) (N : World → World → Prop) (K : Tmp → Value → World → Prop) (o : Oper) (w : World) : Result Next → Prop
  | .ok (.value u) w' => N w w' ∧ Puts K o u w'
  | .ok (.enter f args) w' => Calls P f args w' fun e w'' => ∃ u, e = .returned u ∧ N w w'' ∧ Puts K o u w''
  | _ => False

def Does (P : Program) (ops : Array Oper) (N : World → World → Prop) (K : Tmp → Value → World → Prop) (o : Oper) (a : Act) (w : World) : Prop :=
  (Region.wanted o (yielded ops a.tmps) = false ∧ Puts K o undef w) ∨
  (Region.wanted o (yielded ops a.tmps) = true ∧ Gives P N K o w ((execOp a.eval o).run P w))

section
variable {P : Program} {ops : Array Oper} {Q : Exit → Act → World → Prop} {md : Region.Mode} {N : World → World → Prop} {K : Tmp → Value → World → Prop}

theorem Does.wpOp {i : Nat} {o : Oper} {a : Act} {w : World} (hi : ops[i]? = some o) (hr : N w w) (h : Does P ops N K o a w)
    {R : Act → World → Prop} (hR : ∀ u w', N w w' → Puts K o u w' → R (a.put o.dst u) w') : wpOp P ops Q i R a w := by
  unfold Go.wpOp
  simp only [hi]
  rcases h with ⟨hw, hp⟩ | ⟨hw, hg⟩
  · simp only [hw, Bool.false_eq_true, if_false]; exact hR _ _ hr hp
  · simp only [hw, if_true]
    refine .inl ?_
    unfold Oper.wp
    generalize (execOp a.eval o).run P w = r at hg
    unfold Gives at hg
    split at hg
    · exact hR _ _ hg.1 hg.2
    · refine Calls.mono hg fun e w'' he => ?_
      obtain ⟨u, rfl, h1, h2⟩ := he
      exact hR _ _ h1 h2
    · exact hg.elim

/-- The region's own conditions: every edge goes back; every slot is written once; what is looked at is waited for. -/
def ck (md : Region.Mode) (ops : Array Oper) (loose : List Tmp) : Bool :=
  Region.noSelect ops && (List.range ops.size).all fun j => match ops[j]? with
    | none => true
    | some o =>
      (o.after.all fun e => decide (e.on < j)) &&
      (List.range ops.size).all fun i => match ops[i]? with
        | none => true
        | some x => match x.dst with
          | none => true
          | some d => (i == j || o.dst != some d) && (!((o.looksAt ops).contains d) || o.after.any fun e => Region.binds md e && e.on == i)

theorem ck_spec {loose : List Tmp} (h : ck md ops loose = true) :
    (∀ (j : Nat) (o : Oper) cs b, ops[j]? = some o → o.op ≠ .select cs b) ∧
    (∀ (j : Nat) (o : Oper), ops[j]? = some o → ∀ e ∈ o.after, e.on < j) ∧
    (∀ (j : Nat) (o : Oper) (i : Nat) (x : Oper) (d : Tmp), ops[j]? = some o → ops[i]? = some x → x.dst = some d → i ≠ j → o.dst ≠ some d) ∧
    (∀ (j : Nat) (o : Oper) (i : Nat) (x : Oper) (d : Tmp), ops[j]? = some o → ops[i]? = some x → x.dst = some d → d ∈ o.looksAt ops → ∃ e ∈ o.after, Region.binds md e = true ∧ e.on = i) := by
  unfold ck at h
  rw [Bool.and_eq_true] at h
  obtain ⟨hs, h⟩ := h
  rw [List.all_eq_true] at h
  have hj : ∀ (j : Nat) (o : Oper), ops[j]? = some o → (∀ e ∈ o.after, e.on < j) ∧ ∀ (i : Nat) (x : Oper) (d : Tmp), ops[i]? = some x → x.dst = some d → (i ≠ j → o.dst ≠ some d) ∧ (d ∈ o.looksAt ops → ∃ e ∈ o.after, Region.binds md e = true ∧ e.on = i) := by
    intro j o ho
    have hlt : j < ops.size := (Array.getElem?_eq_some_iff.1 ho).1
    have := h j (by simpa using hlt)
    simp only [ho, Bool.and_eq_true] at this
    obtain ⟨h1, h2⟩ := this
    refine ⟨fun e he => by simpa using (Array.all_eq_true_iff_forall_mem.1 h1) e he, fun i x d hi hx => ?_⟩
    have hlt' : i < ops.size := (Array.getElem?_eq_some_iff.1 hi).1
    rw [List.all_eq_true] at h2
    have := h2 i (by simpa using hlt')
    simp only [hi, hx, Bool.and_eq_true, Bool.or_eq_true] at this
    obtain ⟨h3, h4⟩ := this
    refine ⟨fun hne => ?_, fun hm => ?_⟩
    · rcases h3 with h3 | h3
      · exact absurd (by simpa using h3) hne
      · simpa using h3
    · rcases h4 with h4 | h4
      · simp [hm] at h4
      · rw [Array.any_eq_true'] at h4
        obtain ⟨e, he, h5⟩ := h4
        rw [Bool.and_eq_true] at h5
        exact ⟨e, he, h5.1, by simpa using h5.2⟩
  exact ⟨Region.noSelect_spec hs, fun j o ho => (hj j o ho).1, fun j o i x d ho hi hx => ((hj j o ho).2 i x d hi hx).1, fun j o i x d ho hi hx => ((hj j o ho).2 i x d hi hx).2⟩

/-- No operation that has not come up writes t. -/
def Settled (ops : Array Oper) (listed : Array Bool) (t : Tmp) : Prop := ∀ (j : Nat) (o : Oper), ops[j]? = some o → o.dst = some t → listed.getD j true = true

def left (ops : Array Oper) (listed : Array Bool) : Nat := (List.range ops.size).countP fun j => !listed.getD j true

theorem countP_lt {α : Type} {p q : α → Bool} : ∀ {l : List α} {x : α}, (∀ y ∈ l, q y = true → p y = true) → x ∈ l → p x = true → q x = false → l.countP q < l.countP p
  | [], _, _, hx, _, _ => by cases hx
  | y :: l, x, h, hx, hp, hq => by
    have hle : l.countP q ≤ l.countP p := List.countP_mono_left fun z hz => h z (List.mem_cons_of_mem _ hz)
    rcases List.mem_cons.1 hx with rfl | hx
    · rw [List.countP_cons_of_pos hp, List.countP_cons_of_neg (by simp [hq])]; omega
    · have ih := countP_lt (fun z hz => h z (List.mem_cons_of_mem _ hz)) hx hp hq
      have h0 := h y List.mem_cons_self
      rw [List.countP_cons, List.countP_cons]
      cases hqy : q y
      · simp; omega
      · simp [h0 hqy]; exact ih

theorem listed_all {listed : Array Bool} (hlt : ∀ (j : Nat) (o : Oper), ops[j]? = some o → ∀ e ∈ o.after, e.on < j) (hsz : listed.size = ops.size)
    (hr : Region.ready md ops listed = []) : ∀ (j : Nat) (o : Oper), ops[j]? = some o → listed.getD j true = true := by
  intro j
  induction j using Nat.strongRecOn with
  | _ j ih =>
    intro o ho
    cases hl : listed.getD j true with
    | true => rfl
    | false =>
      have : j ∈ Region.ready md ops listed := by
        rw [mem_ready]
        refine ⟨hl, o, ho, fun e he _ => ?_⟩
        have h1 := hlt j o ho e he
        have hj : j < ops.size := (Array.getElem?_eq_some_iff.1 ho).1
        have hs : e.on < ops.size := by omega
        have := ih e.on h1 ops[e.on] (by simp [hs])
        have hs' : e.on < listed.size := by omega
        simpa [hs'] using this
      rw [hr] at this
      cases this

theorem wpAny_vals {S : World → Prop} (hsel : ∀ (j : Nat) (o : Oper) cs b, ops[j]? = some o → o.op ≠ .select cs b)
    (hlt : ∀ (j : Nat) (o : Oper), ops[j]? = some o → ∀ e ∈ o.after, e.on < j)
    (hone : ∀ (j : Nat) (o : Oper) (i : Nat) (x : Oper) (d : Tmp), ops[j]? = some o → ops[i]? = some x → x.dst = some d → i ≠ j → o.dst ≠ some d)
    (hlook : ∀ (j : Nat) (o : Oper) (i : Nat) (x : Oper) (d : Tmp), ops[j]? = some o → ops[i]? = some x → x.dst = some d → d ∈ o.looksAt ops → ∃ e ∈ o.after, Region.binds md e = true ∧ e.on = i)
    (n : Nat) (ds : List Deferred) (hin : ∀ (j : Nat) (o : Oper), ops[j]? = some o → (∀ d, o.dst = some d → d < n) ∧ ∀ t ∈ o.looksAt ops, t < n)
    (hN : ∀ w, N w w) (hSN : ∀ w w', S w → N w w' → S w') (hKN : ∀ t v w w', K t v w → N w w' → K t v w')
    (hall : ∀ (j : Nat) (o : Oper), ops[j]? = some o → ∀ a w, a.defers = ds → S w → Knows K (o.looksAt ops) a w → Does P ops N K o a w)
    (hQ : ∀ a w, a.tmps.size = n → a.defers = ds → S w → (∀ t < n, ∃ v, a.tmps[t]? = some v ∧ K t v w) → Q .normal a w) :
    ∀ (fuel : Nat) (listed : Array Bool) (a : Act) (w : World), listed.size = ops.size → left ops listed ≤ fuel → a.tmps.size = n → a.defers = ds → S w →
      (∀ t < n, Settled ops listed t → ∃ v, a.tmps[t]? = some v ∧ K t v w) → wpAny P md ops Q fuel listed a w := by
  intro fuel
  have fin : ∀ (listed : Array Bool) (a : Act) (w : World), listed.size = ops.size → a.tmps.size = n → a.defers = ds → S w →
      (∀ t < n, Settled ops listed t → ∃ v, a.tmps[t]? = some v ∧ K t v w) → Region.ready md ops listed = [] → Q .normal a w := by
    intro listed a w hsz hn hd hS hk hr
    have hl := listed_all hlt hsz hr
    exact hQ a w hn hd hS fun t ht => hk t ht fun j o ho _ => hl j o ho
  induction fuel with
  | zero =>
    intro listed a w hsz hleft hn hd hS hk
    have hr : Region.ready md ops listed = [] := by
      rw [List.eq_nil_iff_forall_not_mem]
      intro j hj
      obtain ⟨h0, o, ho, _⟩ := mem_ready.1 hj
      have hlt' : j < ops.size := (Array.getElem?_eq_some_iff.1 ho).1
      have : 0 < left ops listed := List.countP_pos_iff.2 ⟨j, by simpa using hlt', by simp [h0]⟩
      omega
    exact ⟨hr, fin listed a w hsz hn hd hS hk hr⟩
  | succ fuel ih =>
    intro listed a w hsz hleft hn hd hS hk
    refine ⟨fun hr => fin listed a w hsz hn hd hS hk hr, fun i hi => ?_⟩
    obtain ⟨h0, o, ho, hdep⟩ := mem_ready.1 hi
    have hilt : i < ops.size := (Array.getElem?_eq_some_iff.1 ho).1
    have hknow : Knows K (o.looksAt ops) a w := by
      intro t ht
      refine hk t ((hin i o ho).2 t ht) fun j x hx hxd => ?_
      obtain ⟨e, he, hb, rfl⟩ := hlook i o j x t ho hx hxd ht
      have h1 := hdep e he hb
      have hj : e.on < ops.size := (Array.getElem?_eq_some_iff.1 hx).1
      have hj' : e.on < listed.size := by omega
      simpa [hj'] using h1
    refine (hall i o ho a w hd hS hknow).wpOp ho (hN w) fun u w' hw' hp => ?_
    refine ih _ _ _ (by simpa using hsz) ?_ ?_ ?_ (hSN _ _ hS hw') ?_
    · have : left ops (listed.setIfInBounds i true) < left ops listed := by
        refine countP_lt (x := i) (fun j _ hj => ?_) (by simpa using hilt) (by simp [h0]) (by simp [hsz, hilt])
        by_cases hij : i = j
        · subst hij; simp [hsz, hilt] at hj
        · rw [getD_set_ne true hij] at hj; exact hj
      omega
    · unfold Act.put; split <;> simp [hn]
    · unfold Act.put; split <;> exact hd
    · intro t ht hset
      by_cases hdt : o.dst = some t
      · refine ⟨u, ?_, hp t hdt⟩
        have : t < a.tmps.size := by omega
        simp [Act.put, hdt, this]
      · have hset' : Settled ops listed t := by
          intro j x hx hxd
          by_cases hij : i = j
          · subst hij; rw [ho] at hx; cases hx; exact absurd hxd hdt
          · rw [← getD_set_ne true hij]; exact hset j x hx hxd
        obtain ⟨v, hv, hK⟩ := hk t ht hset'
        refine ⟨v, ?_, hKN _ _ _ _ hK hw'⟩
        cases hod : o.dst with
        | none => simpa [Act.put] using hv
        | some d =>
          have : d ≠ t := fun e => hdt (by rw [hod, e])
          simp only [Act.put]
          rw [Array.getElem?_setIfInBounds_ne this]; exact hv

/-- Slots below n. -/
def below (ops : Array Oper) (n : Nat) : Bool :=
  (List.range ops.size).all fun j => match ops[j]? with
    | none => true
    | some o => (match o.dst with | some d => decide (d < n) | none => true) && (o.looksAt ops).all fun t => decide (t < n)

theorem below_spec {n : Nat} (h : below ops n = true) : ∀ (j : Nat) (o : Oper), ops[j]? = some o → (∀ d, o.dst = some d → d < n) ∧ ∀ t ∈ o.looksAt ops, t < n := by
  intro j o ho
  unfold below at h
  rw [List.all_eq_true] at h
  have hlt : j < ops.size := (Array.getElem?_eq_some_iff.1 ho).1
  have := h j (by simpa using hlt)
  simp only [ho, Bool.and_eq_true] at this
  refine ⟨fun d hd => ?_, fun t ht => ?_⟩
  · have h1 := this.1
    simp only [hd] at h1
    simpa using h1
  · simpa using (List.all_eq_true.1 this.2) t ht

/-- The obligations, one for each operation. -/
def Each (P : Program) (ops : Array Oper) (N : World → World → Prop) (K : Tmp → Value → World → Prop) (S : World → Prop) (ds : List Deferred) : List Oper → Prop
  | [] => True
  | o :: l => (∀ a w, a.defers = ds → S w → Knows K (o.looksAt ops) a w → Does P ops N K o a w) ∧ Each P ops N K S ds l

theorem Each.get {S : World → Prop} {ds : List Deferred} : ∀ {l : List Oper}, Each P ops N K S ds l → ∀ (j : Nat) (o : Oper), l[j]? = some o → ∀ a w, a.defers = ds → S w → Knows K (o.looksAt ops) a w → Does P ops N K o a w
  | [], _, j, o, h => by simp at h
  | x :: l, hE, 0, o, h => by simp at h; subst h; exact hE.1
  | x :: l, hE, j + 1, o, h => by simp at h; exact hE.2.get j o h

theorem left_start : left ops (Array.replicate ops.size false) ≤ ops.size := by
  unfold left
  exact Nat.le_trans List.countP_le_length (by simp)

/-- **A region that draws its order, by the values that its slots hold behind it.** F: every slot's value (the loose ones' are of no account); vs: the operations' values in their text's order. -/
theorem wp_region_vals {id : Nat} {a : Act} {w : World} {S : World → Prop} (loose : List Tmp) (p : Tmp → Value → World → Prop) (vs : List Value) (F : Array Value)
    (hm : P.follows .mixedOrders = true) (hck : ck .any ops loose = true) (hb : below ops a.tmps.size = true)
    (hF : putL a.tmps (ops.toList.map (·.dst)) vs = F)
    (hl : (loose.all fun t => ops.toList.any fun o => o.dst == some t) = true)
    (hN : ∀ w, N w w) (hS : S w.drew) (hSN : ∀ w w', S w → N w w' → S w')
    (hpN : ∀ t ∈ loose, ∀ v w w', p t v w → N w w' → p t v w')
    (hall : Each P ops N (Kn F loose p) S a.defers ops.toList)
    (hQ : ∀ T w', T.size = F.size → S w' → (∀ t < F.size, ∃ v, T[t]? = some v ∧ Kn F loose p t v w') → Q .normal { a with tmps := T } w') : (Code.region id ops true).wp P Q a w := by
  obtain ⟨h1, h2, h3, h4⟩ := ck_spec hck
  have hFs : F.size = a.tmps.size := by rw [← hF, putL_size]
  refine wp_region_any hm (wpAny_vals (K := Kn F loose p) (N := N) (S := S) h1 h2 h3 h4 a.tmps.size a.defers (below_spec hb) hN hSN ?_ ?_ ?_ ops.size _ a _ (by simp) left_start rfl rfl hS ?_)
  · rintro t v w w' (⟨hm, hp⟩ | ⟨hm, hp⟩) hw
    · exact .inl ⟨hm, hpN t hm v w w' hp hw⟩
    · exact .inr ⟨hm, hp⟩
  · intro j o ho a' w' hd hS' hK
    exact hall.get j o (by simpa using ho) a' w' hd hS' hK
  · intro a' w' hn hd hS' hk
    have := hQ a'.tmps w' (by rw [hn, hFs]) hS' (by rw [hFs]; exact hk)
    rw [← hd] at this
    exact this
  · intro t ht hset
    have hnd : some t ∉ ops.toList.map (·.dst) := by
      intro hm
      obtain ⟨o, ho, hod⟩ := List.mem_map.1 hm
      obtain ⟨j, hj⟩ := List.mem_iff_getElem?.1 ho
      have hj' : ops[j]? = some o := by simpa using hj
      have h5 := hset j o hj' hod
      have hlt : j < ops.size := (Array.getElem?_eq_some_iff.1 hj').1
      simp [hlt] at h5
    refine ⟨a.tmps[t], by simp [ht], .inr ⟨fun hm => ?_, ?_⟩⟩
    · rw [List.all_eq_true] at hl
      have := hl t hm
      rw [List.any_eq_true] at this
      obtain ⟨o, ho, hod⟩ := this
      exact hnd (List.mem_map.2 ⟨o, ho, by simpa using hod⟩)
    · rw [← hF, putL_off _ _ _ hnd]; simp [ht]

/-- None loose: the act behind the region is known whole. -/
theorem wp_region_vals0 {id : Nat} {a : Act} {w : World} {S : World → Prop} (vs : List Value) (F : Array Value)
    (hm : P.follows .mixedOrders = true) (hck : ck .any ops [] = true) (hb : below ops a.tmps.size = true)
    (hF : putL a.tmps (ops.toList.map (·.dst)) vs = F)
    (hN : ∀ w, N w w) (hS : S w.drew) (hSN : ∀ w w', S w → N w w' → S w')
    (hall : Each P ops N (Kn F [] fun _ _ _ => False) S a.defers ops.toList)
    (hQ : ∀ w', S w' → Q .normal { a with tmps := F } w') : (Code.region id ops true).wp P Q a w := by
  refine wp_region_vals [] (fun _ _ _ => False) vs F hm hck hb hF rfl hN hS hSN (by simp) hall fun T w' hT hS' hk => ?_
  have : T = F := by
    apply Array.ext hT
    intro i h1 h2
    obtain ⟨v, hv, hK⟩ := hk i h2
    rcases hK with ⟨h, _⟩ | ⟨_, hK⟩
    · cases h
    · rw [← hK] at hv; simpa [h1, h2] using hv
  subst this
  exact hQ w' hS'

/-! ### The obligations' moves -/

/-- The operation looks at no loose slot: it is as at F. -/
theorem does_at {F : Array Value} {loose : List Tmp} {p : Tmp → Value → World → Prop} {o : Oper} {a : Act} {w : World} (hs : ∀ cs b, o.op ≠ .select cs b)
    (hl : (o.looksAt ops).all (fun t => !loose.contains t) = true) (hk : Knows (Kn F loose p) (o.looksAt ops) a w)
    (h : Does P ops N (Kn F loose p) o { a with tmps := F } w) : Does P ops N (Kn F loose p) o a w := by
  have hsame : ∀ t ∈ o.looksAt ops, a.tmps[t]? = F[t]? := by
    intro t ht
    obtain ⟨v, hv, hK⟩ := hk t ht
    have h1 := (List.all_eq_true.1 hl) t ht
    rcases hK with ⟨hm, _⟩ | ⟨_, hK⟩
    · simp [hm] at h1
    · rw [hv, hK]
  have he : execOp a.eval o = execOp ({ a with tmps := F } : Act).eval o := by
    refine execOp_congr o hs fun x hx => ?_
    cases x with
    | tmp t =>
      have ht : t ∈ o.looksAt ops := List.mem_append_left _ (List.mem_filterMap.2 ⟨.tmp t, by simpa using hx, rfl⟩)
      have := hsame t ht
      simp [Act.eval, this]
    | _ => rfl
  have hw : Region.wanted o (yielded ops a.tmps) = Region.wanted o (yielded ops F) := by
    unfold Region.wanted
    cases hg : o.guard with
    | none => rfl
    | some gw =>
      obtain ⟨g, want⟩ := gw
      have hy : yielded ops a.tmps g = yielded ops F g := by
        unfold yielded
        cases ht : (ops[g]?).bind (·.dst) with
        | none => rfl
        | some t =>
          have := hsame t (by simp [Oper.looksAt, hg, ht])
          simp [this]
      simp only [hy]
  unfold Does at *
  rw [he, hw]
  exact h

theorem puts_at {F : Array Value} {loose : List Tmp} {p : Tmp → Value → World → Prop} {o : Oper} {w : World} {d : Tmp} {v : Value} (hd : o.dst = some d) (hn : loose.contains d = false) (hv : F[d]? = some v) : Puts (Kn F loose p) o v w := by
  intro d' hd'
  rw [hd] at hd'
  cases hd'
  exact .inr ⟨by simpa using hn, hv⟩

def noSel (o : Oper) : Bool := match o.op with | .select .. => false | _ => true
theorem noSel_spec {o : Oper} (h : noSel o = true) : ∀ cs b, o.op ≠ .select cs b := by
  intro cs b e
  simp [noSel, e] at h

section
variable {F : Array Value} {loose : List Tmp} {p : Tmp → Value → World → Prop} {S : World → Prop} {o : Oper} {ds : List Deferred} {l : List Oper} {d : Tmp} {v : Value}

/-- The operation's own conditions, as one Bool: no select; it looks at no loose slot and writes none. -/
def own (ops : Array Oper) (loose : List Tmp) (o : Oper) (d : Tmp) : Bool := noSel o && (o.looksAt ops).all (fun t => !loose.contains t) && (o.dst == some d) && !loose.contains d
theorem own_spec (h : own ops loose o d = true) : (∀ cs b, o.op ≠ .select cs b) ∧ (o.looksAt ops).all (fun t => !loose.contains t) = true ∧ o.dst = some d ∧ loose.contains d = false := by
  unfold own at h
  simp only [Bool.and_eq_true] at h
  exact ⟨noSel_spec h.1.1.1, h.1.1.2, by simpa using h.1.2, by simpa using h.2⟩

/-- It gives v and leaves the world. -/
theorem Each.val (d : Tmp) (v : Value) (ho : own ops loose o d = true) (hw : Region.wanted o (yielded ops F) = true) (hv : F[d]? = some v) (hN : ∀ w, N w w)
    (he : ∀ w, S w → ∀ ds, (execOp (Act.eval ⟨F, ds⟩) o).run P w = .ok (.value v) w) (hr : Each P ops N (Kn F loose p) S ds l) : Each P ops N (Kn F loose p) S ds (o :: l) :=
  have h := own_spec ho
  ⟨fun a w _ hS hk => does_at h.1 h.2.1 hk (.inr ⟨hw, by
    have := he w hS a.defers
    show Gives P N _ o w ((execOp (Act.eval ⟨F, a.defers⟩) o).run P w)
    rw [this]; exact ⟨hN w, puts_at h.2.2.1 h.2.2.2 hv⟩⟩), hr⟩
/-- It is not wanted. -/
theorem Each.off (d : Tmp) (ho : own ops loose o d = true) (hw : Region.wanted o (yielded ops F) = false) (hv : F[d]? = some undef)
    (hr : Each P ops N (Kn F loose p) S ds l) : Each P ops N (Kn F loose p) S ds (o :: l) :=
  have h := own_spec ho
  ⟨fun a w _ hS hk => does_at h.1 h.2.1 hk (.inl ⟨hw, puts_at h.2.2.1 h.2.2.2 hv⟩), hr⟩
/-- It calls. -/
theorem Each.call (d : Tmp) (v : Value) (f : FuncId) (args : Array Value) (ho : own ops loose o d = true) (hw : Region.wanted o (yielded ops F) = true) (hv : F[d]? = some v)
    (he : ∀ w, ∀ ds, (execOp (Act.eval ⟨F, ds⟩) o).run P w = .ok (.enter f args) w) (hc : ∀ w, S w → Calls P f args w fun e w' => e = .returned v ∧ N w w')
    (hr : Each P ops N (Kn F loose p) S ds l) : Each P ops N (Kn F loose p) S ds (o :: l) :=
  have h := own_spec ho
  ⟨fun a w _ hS hk => does_at h.1 h.2.1 hk (.inr ⟨hw, by
    have := he w a.defers
    show Gives P N _ o w ((execOp (Act.eval ⟨F, a.defers⟩) o).run P w)
    rw [this]; exact (hc w hS).mono fun e w' hh => ⟨v, hh.1, hh.2, puts_at h.2.2.1 h.2.2.2 hv⟩⟩), hr⟩
/-- It makes something new, in a loose slot. -/
theorem Each.makes (d : Tmp) (hs : noSel o = true) (hl : (o.looksAt ops).all (fun t => !loose.contains t) = true) (hd : o.dst = some d) (hm : loose.contains d = true) (hw : Region.wanted o (yielded ops F) = true)
    (he : ∀ w, S w → ∀ ds, ∃ v w', (execOp (Act.eval ⟨F, ds⟩) o).run P w = .ok (.value v) w' ∧ N w w' ∧ p d v w') (hr : Each P ops N (Kn F loose p) S ds l) : Each P ops N (Kn F loose p) S ds (o :: l) :=
  ⟨fun a w _ hS hk => does_at (noSel_spec hs) hl hk (.inr ⟨hw, by
    obtain ⟨v, w', this, h1, h2⟩ := he w hS a.defers
    show Gives P N _ o w ((execOp (Act.eval ⟨F, a.defers⟩) o).run P w)
    rw [this]; exact ⟨h1, fun d' hd' => by rw [hd] at hd'; cases hd'; exact .inl ⟨by simpa using hm, h2⟩⟩⟩), hr⟩
/-- The guard's slot is among l. -/
def guardIn (ops : Array Oper) (o : Oper) (l : List Tmp) : Bool := match o.guard with
  | some (g, _) => match (ops[g]?).bind (·.dst) with | some d => l.contains d | none => true
  | none => true
theorem wanted_same {l : List Tmp} {T : Array Value} (h : guardIn ops o l = true) (hT : ∀ t ∈ l, T[t]? = F[t]?) : Region.wanted o (yielded ops T) = Region.wanted o (yielded ops F) := by
  unfold Region.wanted guardIn at *
  cases hg : o.guard with
  | none => rfl
  | some gw =>
    obtain ⟨g, want⟩ := gw
    have hy : yielded ops T g = yielded ops F g := by
      unfold yielded
      cases ht : (ops[g]?).bind (·.dst) with
      | none => rfl
      | some t =>
        simp only [hg, ht] at h
        have := hT t (by simpa using h)
        simp [this]
    simp only [hy]
/-- A call whose argument is a loose slot. -/
theorem Each.callLoose (d t : Tmp) (v : Value) (f : FuncId) (hd : o.dst = some d) (hm : loose.contains d = false) (hl : o.looksAt ops = t :: (o.looksAt ops).tail) (hlo : loose.contains t = true)
    (hw : Region.wanted o (yielded ops F) = true) (hg : guardIn ops o (o.looksAt ops).tail = true) (hgl : (o.looksAt ops).tail.all (fun t => !loose.contains t) = true) (hv : F[d]? = some v)
    (he : ∀ w a, (execOp (Act.eval a) o).run P w = .ok (.enter f #[a.eval (.tmp t)]) w) (hc : ∀ w x, S w → p t x w → Calls P f #[x] w fun e w' => e = .returned v ∧ N w w')
    (hr : Each P ops N (Kn F loose p) S ds l) : Each P ops N (Kn F loose p) S ds (o :: l) := by
  refine ⟨fun a w _ hS hk => .inr ⟨(wanted_same hg fun t ht => ?_).trans hw, ?_⟩, hr⟩
  · obtain ⟨x, hx, hK⟩ := hk t (by rw [hl]; exact List.mem_cons_of_mem _ ht)
    have h1 := (List.all_eq_true.1 hgl) t ht
    rcases hK with ⟨hm, _⟩ | ⟨_, hK⟩
    · simp [hm] at h1
    · rw [hx, hK]
  · obtain ⟨x, hx, hK⟩ := hk t (by rw [hl]; exact List.mem_cons_self)
    have hp : p t x w := by
      rcases hK with ⟨_, h⟩ | ⟨h, _⟩
      · exact h
      · exact absurd (by simpa using hlo) h
    rw [he, show a.eval (.tmp t) = x by simp [Act.eval, hx]]
    exact (hc w x hS hp).mono fun e w' hh => ⟨v, hh.1, hh.2, puts_at hd hm hv⟩
end
end
end Go.Vals
end
section
namespace Go.Proofs.YtdodkbpagbblmaaGreatDoor
open Go Go.RowKit Go.Vals

section
variable {o : Oper} {ρ : Operand → Value} {w : World}
theorem ex_ixo {x y : Operand} {g off n m c : Nat} (ho : o.op = .indexAddr 23 x y) (hx : ρ x = .slice (some ⟨g, off, none⟩) n c) (hy : ρ y = .int .i64 m) (hm : m < n) : (execOp ρ o).run Tryz.prog w = .ok (.value (.pointer (some ⟨g, off + m * 8, none⟩))) w := by
  unfold execOp; rw [ho]; simp only [hx, hy]
  have h0 : (0 : Int) ≤ m := by omega
  have h1 : (m : Int) < n := by omega
  go_simp
theorem ex_f0 {x : Operand} {g m : Nat} (ho : o.op = .fieldAddr 35 x 0) (hx : ρ x = .pointer (some ⟨g, m, none⟩)) : (execOp ρ o).run Tryz.prog w = .ok (.value (.pointer (some ⟨g, m, none⟩))) w := by
  unfold execOp; rw [ho]; simp only [hx]
  go_simp
theorem ex_f1 {x : Operand} {g m : Nat} (ho : o.op = .fieldAddr 35 x 1) (hx : ρ x = .pointer (some ⟨g, m, none⟩)) : (execOp ρ o).run Tryz.prog w = .ok (.value (.pointer (some ⟨g, m + 1, none⟩))) w := by
  unfold execOp; rw [ho]; simp only [hx]
  go_simp
theorem ex_f2 {x : Operand} {g m : Nat} (ho : o.op = .fieldAddr 35 x 2) (hx : ρ x = .pointer (some ⟨g, m, none⟩)) : (execOp ρ o).run Tryz.prog w = .ok (.value (.pointer (some ⟨g, m + 2, none⟩))) w := by
  unfold execOp; rw [ho]; simp only [hx]
  go_simp
theorem ex_f3 {x : Operand} {g m : Nat} (ho : o.op = .fieldAddr 35 x 3) (hx : ρ x = .pointer (some ⟨g, m, none⟩)) : (execOp ρ o).run Tryz.prog w = .ok (.value (.pointer (some ⟨g, m + 3, none⟩))) w := by
  unfold execOp; rw [ho]; simp only [hx]
  go_simp
theorem ex_f4 {x : Operand} {g m : Nat} (ho : o.op = .fieldAddr 35 x 4) (hx : ρ x = .pointer (some ⟨g, m, none⟩)) : (execOp ρ o).run Tryz.prog w = .ok (.value (.pointer (some ⟨g, m + 7, none⟩))) w := by
  unfold execOp; rw [ho]; simp only [hx]
  go_simp
theorem ex_l30 {x : Operand} {p : Addr} {v : Int} (ho : o.op = .load 30 x) (hx : ρ x = .pointer (some p)) (hc : w.cell? p = some (.int .i64 v)) : (execOp ρ o).run Tryz.prog w = .ok (.value (.int .i64 v)) w := by
  unfold execOp; rw [ho]; simp only [hx]
  go_simp
theorem ex_l3 {x : Operand} {p : Addr} {v : Int} (ho : o.op = .load 3 x) (hx : ρ x = .pointer (some p)) (hc : w.cell? p = some (.int .i64 v)) : (execOp ρ o).run Tryz.prog w = .ok (.value (.int .i64 v)) w := by
  unfold execOp; rw [ho]; simp only [hx]
  go_simp
theorem ex_l9 {x : Operand} {p : Addr} {v : ByteArray} (ho : o.op = .load 9 x) (hx : ρ x = .pointer (some p)) (hc : w.cell? p = some (.string v)) : (execOp ρ o).run Tryz.prog w = .ok (.value (.string v)) w := by
  unfold execOp; rw [ho]; simp only [hx]
  go_simp
theorem ex_l33 {x : Operand} {g m : Nat} {z : BS} (ho : o.op = .load 33 x) (hx : ρ x = .pointer (some ⟨g, m, none⟩)) (c0 : w.cell? ⟨g, m, none⟩ = some (.int .u64 (wdI z 0))) (c1 : w.cell? ⟨g, m + 1, none⟩ = some (.int .u64 (wdI z 1))) (c2 : w.cell? ⟨g, m + 2, none⟩ = some (.int .u64 (wdI z 2))) (c3 : w.cell? ⟨g, m + 3, none⟩ = some (.int .u64 (wdI z 3))) : (execOp ρ o).run Tryz.prog w = .ok (.value (vset z)) w := by
  unfold execOp vset
  rw [ho]
  simp only [hx]
  go_simp
theorem ex_n30 {x y : Operand} {a b : Int} {r : Bool} (ho : o.op = .binOp .neq 30 x y 30) (hx : ρ x = .int .i64 a) (hy : ρ y = .int .i64 b) (h : (a != b) = r) : (execOp ρ o).run Tryz.prog w = .ok (.value (.bool r)) w := by
  unfold execOp; rw [ho]; simp only [hx, hy]
  go_simp
theorem ex_n3 {x y : Operand} {a b : Int} {r : Bool} (ho : o.op = .binOp .neq 3 x y 3) (hx : ρ x = .int .i64 a) (hy : ρ y = .int .i64 b) (h : (a != b) = r) : (execOp ρ o).run Tryz.prog w = .ok (.value (.bool r)) w := by
  unfold execOp; rw [ho]; simp only [hx, hy]
  go_simp
theorem ex_n9 {x y : Operand} {a b : ByteArray} {r : Bool} (ho : o.op = .binOp .neq 9 x y 9) (hx : ρ x = .string a) (hy : ρ y = .string b) (h : (a.toList != b.toList) = r) : (execOp ρ o).run Tryz.prog w = .ok (.value (.bool r)) w := by
  unfold execOp; rw [ho]; simp only [hx, hy]
  go_simp
  rw [← h, bne, Bool.not_not]
theorem ex_n33 {x y : Operand} {ty : TypeId} {s t : BS} {r : Bool} (ho : o.op = .binOp .neq 33 x y ty) (hx : ρ x = vset s) (hy : ρ y = vset t) (h : (s != t) = r) : (execOp ρ o).run Tryz.prog w = .ok (.value (.bool r)) w := by
  have h2 := eq_sets s t
  unfold vset at hx hy
  unfold execOp
  rw [ho]
  simp only [hx, hy]
  rw [bne] at h
  go_simp
end

set_option maxRecDepth 100000 in
set_option maxHeartbeats 8000000 in
/-- The document's Same. -/
theorem rsame_any (a b : Option Addr) (ca cb : Nat) (l k : List (Wd × Int)) (w : World) (hl : RowW w a l) (hk : RowW w b k) (hll : l.length ≤ 1048576) (hkl : k.length ≤ 1048576) :
    Calls Tryz.prog 16 #[.slice a l.length ca, .slice b k.length cb] w fun e w' => e = .returned (.bool (sameL l k)) ∧ Below w.heap.size w w' := by
  have HD := Lib.hid hl
  have HK := Lib.hid hk
  clear hl hk
  by_cases hne : l.length = k.length
  · obtain ⟨n, hn⟩ : ∃ n, n = l.length := ⟨_, rfl⟩
    rw [← hne, ← hn]
    have HN : Hid (l.length = n ∧ k.length = n) := ⟨hn.symm, by rw [← hne, hn]⟩
    have hn1 : n ≤ 1048576 := by rw [hn]; exact hll
    clear hne hn hll hkl
    go_enter Tryz.func16, Tryz.ntmps16
    go_wp2
    go_loopw [5] (fun i wr => ∃ (m : Nat), i = .int .i64 m ∧ m ≤ n ∧ Hid (sameL l k = sameL (l.drop m) (k.drop m)) ∧ Hid (Below w.heap.size w wr))
      (fun i _ => n - (intOf i).toNat)
    case atStart => exact ⟨0, rfl, Nat.zero_le _, Lib.hid rfl, Below.refl _ _⟩
    case round =>
      obtain ⟨m, rfl, hm, hS, hB⟩ := hrel
      by_cases hlt : m < n
      · have HX : Hid (l[m]? = some (l[m]'(by rw [HN.out.1]; exact hlt))) := Lib.hid (List.getElem?_eq_getElem _)
        have HY : Hid (k[m]? = some (k[m]'(by rw [HN.out.2]; exact hlt))) := Lib.hid (List.getElem?_eq_getElem _)
        obtain ⟨x, hx⟩ : ∃ x, l[m]'(by rw [HN.out.1]; exact hlt) = x := ⟨_, rfl⟩
        obtain ⟨y, hy⟩ : ∃ y, k[m]'(by rw [HN.out.2]; exact hlt) = y := ⟨_, rfl⟩
        rw [hx] at HX
        rw [hy] at HY
        clear hx hy
        have HS := Lib.hid (sameL_at l k m x y HX.out HY.out)
        obtain ⟨x, ax⟩ := x
        obtain ⟨y, ay⟩ := y
        obtain ⟨g, off, rfl, hW⟩ := HD.out m _ HX.out
        obtain ⟨h, ofg, rfl, hV⟩ := HK.out m _ HY.out
        have hW := hW.below hB.out hW.lt
        have hV := hV.below hB.out hV.lt
        have bg := hW.lt
        have bh := hV.lt
        have AX : ∀ W, Below wr.heap.size wr W → WordAt W g (off + m * 8) (x, ax) := fun W h => hW.below h bg
        have AY : ∀ W, Below wr.heap.size wr W → WordAt W h (ofg + m * 8) (y, ay) := fun W h' => hV.below h' bh
        have HAX := Lib.hid AX
        have HAY := Lib.hid AY
        clear AX AY hW hV
        dsimp only at HS
        have hmn : m < n := hlt
        have hN : ∀ W : World, Below W.heap.size W W := fun W => Below.refl _ W
        have n1 : (m : Int) < (n : Int) := by omega
        have hsw : sameW x y = (x.kind == y.kind && (x.txt.toList == y.txt.toList && (x.set == y.set && x.num == y.num))) := rfl
        have HSW := Lib.hid hsw
        clear hsw HX HY
        cases k1 : (x.kind == y.kind) with
        | false =>
          have m1 : (x.kind != y.kind) = true := by rw [bne, k1]; rfl
          have HR : Hid (sameL l k = false) := Lib.hid (by rw [hS.out, HS.out, HSW.out, k1]; rfl)
          clear hS HS HSW k1
          go_wp2
          have AX := HAX.out
          have AY := HAY.out
          refine wp_region_vals0 (N := fun W W' => Below W.heap.size W W') (S := fun W => Below wr.heap.size wr W)
            [(.slice (some ⟨g, off, none⟩) n ca), (.int .i64 (m : Nat)), (.pointer (some ⟨g, off + m * 8, none⟩)), (.pointer (some ⟨g, off + m * 8, none⟩)), (.int .i64 x.kind), (.slice (some ⟨h, ofg, none⟩) n cb), (.int .i64 (m : Nat)), (.pointer (some ⟨h, ofg + m * 8, none⟩)), (.pointer (some ⟨h, ofg + m * 8, none⟩)), (.int .i64 y.kind), (.bool true), (.bool true), undef, undef, undef, undef, undef, undef, undef, undef, undef, undef, undef, (.bool true), (.bool true), undef, undef, undef, undef, undef, undef, undef, undef, undef, undef, undef, (.bool true), (.bool true), undef, undef, undef, undef, undef, undef, undef, undef, undef, undef, undef, (.bool true)]
            #[(.slice (some ⟨g, off, none⟩) n ca), (.slice (some ⟨h, ofg, none⟩) n cb), undef, undef, u4, (.int .i64 (m : Nat)), (.slice (some ⟨g, off, none⟩) n ca), (.int .i64 (n : Nat)), (.slice (some ⟨h, ofg, none⟩) n cb), (.int .i64 (n : Nat)), (.bool false), (.int .i64 (m : Nat)), (.slice (some ⟨g, off, none⟩) n ca), (.int .i64 (n : Nat)), (.bool true), u15, u16, (.slice (some ⟨g, off, none⟩) n ca), (.int .i64 (m : Nat)), (.pointer (some ⟨g, off + m * 8, none⟩)), (.pointer (some ⟨g, off + m * 8, none⟩)), (.int .i64 x.kind), (.slice (some ⟨h, ofg, none⟩) n cb), (.int .i64 (m : Nat)), (.pointer (some ⟨h, ofg + m * 8, none⟩)), (.pointer (some ⟨h, ofg + m * 8, none⟩)), (.int .i64 y.kind), (.bool true), (.bool true), undef, undef, undef, undef, undef, undef, undef, undef, undef, undef, undef, (.bool true), (.bool true), undef, undef, undef, undef, undef, undef, undef, undef, undef, undef, undef, (.bool true), (.bool true), undef, undef, undef, undef, undef, undef, undef, undef, undef, undef, undef, (.bool true)]
            rfl (by kernel_rfl) (by kernel_rfl) (by kernel_rfl) hN (Below.refl _ wr).drew (fun W W' h hB => h.trans (hB.mono h.size)) ?_ ?_
          · refine Each.val 17 (.slice (some ⟨g, off, none⟩) n ca) (by kernel_rfl) (by kernel_rfl) (by kernel_rfl) hN (fun _ _ _ => by kernel_rfl) ?_
            refine Each.val 18 (.int .i64 (m : Nat)) (by kernel_rfl) (by kernel_rfl) (by kernel_rfl) hN (fun _ _ _ => by kernel_rfl) ?_
            refine Each.val 19 (.pointer (some ⟨g, off + m * 8, none⟩)) (by kernel_rfl) (by kernel_rfl) (by kernel_rfl) hN (fun W hS _ => ex_ixo (g := g) (off := off) (n := n) (m := m) (c := ca) rfl (by kernel_rfl) (by kernel_rfl) hmn) ?_
            refine Each.val 20 (.pointer (some ⟨g, off + m * 8, none⟩)) (by kernel_rfl) (by kernel_rfl) (by kernel_rfl) hN (fun W hS _ => ex_f0 (g := g) (m := off + m * 8) rfl (by kernel_rfl)) ?_
            refine Each.val 21 (.int .i64 x.kind) (by kernel_rfl) (by kernel_rfl) (by kernel_rfl) hN (fun W hS _ => ex_l30 rfl (by kernel_rfl) (AX W hS).c0) ?_
            refine Each.val 22 (.slice (some ⟨h, ofg, none⟩) n cb) (by kernel_rfl) (by kernel_rfl) (by kernel_rfl) hN (fun _ _ _ => by kernel_rfl) ?_
            refine Each.val 23 (.int .i64 (m : Nat)) (by kernel_rfl) (by kernel_rfl) (by kernel_rfl) hN (fun _ _ _ => by kernel_rfl) ?_
            refine Each.val 24 (.pointer (some ⟨h, ofg + m * 8, none⟩)) (by kernel_rfl) (by kernel_rfl) (by kernel_rfl) hN (fun W hS _ => ex_ixo (g := h) (off := ofg) (n := n) (m := m) (c := cb) rfl (by kernel_rfl) (by kernel_rfl) hmn) ?_
            refine Each.val 25 (.pointer (some ⟨h, ofg + m * 8, none⟩)) (by kernel_rfl) (by kernel_rfl) (by kernel_rfl) hN (fun W hS _ => ex_f0 (g := h) (m := ofg + m * 8) rfl (by kernel_rfl)) ?_
            refine Each.val 26 (.int .i64 y.kind) (by kernel_rfl) (by kernel_rfl) (by kernel_rfl) hN (fun W hS _ => ex_l30 rfl (by kernel_rfl) (AY W hS).c0) ?_
            refine Each.val 27 (.bool true) (by kernel_rfl) (by kernel_rfl) (by kernel_rfl) hN (fun W hS _ => ex_n30 rfl (by kernel_rfl) (by kernel_rfl) m1) ?_
            refine Each.val 28 (.bool true) (by kernel_rfl) (by kernel_rfl) (by kernel_rfl) hN (fun _ _ _ => by kernel_rfl) ?_
            refine Each.off 29 (by kernel_rfl) (by kernel_rfl) (by kernel_rfl) ?_
            refine Each.off 30 (by kernel_rfl) (by kernel_rfl) (by kernel_rfl) ?_
            refine Each.off 31 (by kernel_rfl) (by kernel_rfl) (by kernel_rfl) ?_
            refine Each.off 32 (by kernel_rfl) (by kernel_rfl) (by kernel_rfl) ?_
            refine Each.off 33 (by kernel_rfl) (by kernel_rfl) (by kernel_rfl) ?_
            refine Each.off 34 (by kernel_rfl) (by kernel_rfl) (by kernel_rfl) ?_
            refine Each.off 35 (by kernel_rfl) (by kernel_rfl) (by kernel_rfl) ?_
            refine Each.off 36 (by kernel_rfl) (by kernel_rfl) (by kernel_rfl) ?_
            refine Each.off 37 (by kernel_rfl) (by kernel_rfl) (by kernel_rfl) ?_
            refine Each.off 38 (by kernel_rfl) (by kernel_rfl) (by kernel_rfl) ?_
            refine Each.off 39 (by kernel_rfl) (by kernel_rfl) (by kernel_rfl) ?_
            refine Each.val 40 (.bool true) (by kernel_rfl) (by kernel_rfl) (by kernel_rfl) hN (fun _ _ _ => by kernel_rfl) ?_
            refine Each.val 41 (.bool true) (by kernel_rfl) (by kernel_rfl) (by kernel_rfl) hN (fun _ _ _ => by kernel_rfl) ?_
            refine Each.off 42 (by kernel_rfl) (by kernel_rfl) (by kernel_rfl) ?_
            refine Each.off 43 (by kernel_rfl) (by kernel_rfl) (by kernel_rfl) ?_
            refine Each.off 44 (by kernel_rfl) (by kernel_rfl) (by kernel_rfl) ?_
            refine Each.off 45 (by kernel_rfl) (by kernel_rfl) (by kernel_rfl) ?_
            refine Each.off 46 (by kernel_rfl) (by kernel_rfl) (by kernel_rfl) ?_
            refine Each.off 47 (by kernel_rfl) (by kernel_rfl) (by kernel_rfl) ?_
            refine Each.off 48 (by kernel_rfl) (by kernel_rfl) (by kernel_rfl) ?_
            refine Each.off 49 (by kernel_rfl) (by kernel_rfl) (by kernel_rfl) ?_
            refine Each.off 50 (by kernel_rfl) (by kernel_rfl) (by kernel_rfl) ?_
            refine Each.off 51 (by kernel_rfl) (by kernel_rfl) (by kernel_rfl) ?_
            refine Each.off 52 (by kernel_rfl) (by kernel_rfl) (by kernel_rfl) ?_
            refine Each.val 53 (.bool true) (by kernel_rfl) (by kernel_rfl) (by kernel_rfl) hN (fun _ _ _ => by kernel_rfl) ?_
            refine Each.val 54 (.bool true) (by kernel_rfl) (by kernel_rfl) (by kernel_rfl) hN (fun _ _ _ => by kernel_rfl) ?_
            refine Each.off 55 (by kernel_rfl) (by kernel_rfl) (by kernel_rfl) ?_
            refine Each.off 56 (by kernel_rfl) (by kernel_rfl) (by kernel_rfl) ?_
            refine Each.off 57 (by kernel_rfl) (by kernel_rfl) (by kernel_rfl) ?_
            refine Each.off 58 (by kernel_rfl) (by kernel_rfl) (by kernel_rfl) ?_
            refine Each.off 59 (by kernel_rfl) (by kernel_rfl) (by kernel_rfl) ?_
            refine Each.off 60 (by kernel_rfl) (by kernel_rfl) (by kernel_rfl) ?_
            refine Each.off 61 (by kernel_rfl) (by kernel_rfl) (by kernel_rfl) ?_
            refine Each.off 62 (by kernel_rfl) (by kernel_rfl) (by kernel_rfl) ?_
            refine Each.off 63 (by kernel_rfl) (by kernel_rfl) (by kernel_rfl) ?_
            refine Each.off 64 (by kernel_rfl) (by kernel_rfl) (by kernel_rfl) ?_
            refine Each.off 65 (by kernel_rfl) (by kernel_rfl) (by kernel_rfl) ?_
            refine Each.val 66 (.bool true) (by kernel_rfl) (by kernel_rfl) (by kernel_rfl) hN (fun _ _ _ => by kernel_rfl) ?_
            exact trivial
          intro wq hSq
          have HBq := Lib.hid (hB.out.trans (hSq.mono hB.out.size))
          clear hSq
          clear AX AY m1
          go_wp2
          go_ret
          exact ⟨by rw [HR.out]; rfl, HBq.out⟩
        | true =>
          cases k2 : (x.txt.toList == y.txt.toList) with
          | false =>
            have m1 : (x.kind != y.kind) = false := by rw [bne, k1]; rfl
            have m2 : (x.txt.toList != y.txt.toList) = true := by rw [bne, k2]; rfl
            have HR : Hid (sameL l k = false) := Lib.hid (by rw [hS.out, HS.out, HSW.out, k1, k2]; rfl)
            clear hS HS HSW k1 k2
            go_wp2
            have AX := HAX.out
            have AY := HAY.out
            refine wp_region_vals0 (N := fun W W' => Below W.heap.size W W') (S := fun W => Below wr.heap.size wr W)
              [(.slice (some ⟨g, off, none⟩) n ca), (.int .i64 (m : Nat)), (.pointer (some ⟨g, off + m * 8, none⟩)), (.pointer (some ⟨g, off + m * 8, none⟩)), (.int .i64 x.kind), (.slice (some ⟨h, ofg, none⟩) n cb), (.int .i64 (m : Nat)), (.pointer (some ⟨h, ofg + m * 8, none⟩)), (.pointer (some ⟨h, ofg + m * 8, none⟩)), (.int .i64 y.kind), (.bool false), (.bool false), (.slice (some ⟨g, off, none⟩) n ca), (.int .i64 (m : Nat)), (.pointer (some ⟨g, off + m * 8, none⟩)), (.pointer (some ⟨g, off + m * 8 + 2, none⟩)), (.string x.txt), (.slice (some ⟨h, ofg, none⟩) n cb), (.int .i64 (m : Nat)), (.pointer (some ⟨h, ofg + m * 8, none⟩)), (.pointer (some ⟨h, ofg + m * 8 + 2, none⟩)), (.string y.txt), (.bool true), (.bool true), (.bool true), undef, undef, undef, undef, undef, undef, undef, undef, undef, undef, undef, (.bool true), (.bool true), undef, undef, undef, undef, undef, undef, undef, undef, undef, undef, undef, (.bool true)]
              #[(.slice (some ⟨g, off, none⟩) n ca), (.slice (some ⟨h, ofg, none⟩) n cb), undef, undef, u4, (.int .i64 (m : Nat)), (.slice (some ⟨g, off, none⟩) n ca), (.int .i64 (n : Nat)), (.slice (some ⟨h, ofg, none⟩) n cb), (.int .i64 (n : Nat)), (.bool false), (.int .i64 (m : Nat)), (.slice (some ⟨g, off, none⟩) n ca), (.int .i64 (n : Nat)), (.bool true), u15, u16, (.slice (some ⟨g, off, none⟩) n ca), (.int .i64 (m : Nat)), (.pointer (some ⟨g, off + m * 8, none⟩)), (.pointer (some ⟨g, off + m * 8, none⟩)), (.int .i64 x.kind), (.slice (some ⟨h, ofg, none⟩) n cb), (.int .i64 (m : Nat)), (.pointer (some ⟨h, ofg + m * 8, none⟩)), (.pointer (some ⟨h, ofg + m * 8, none⟩)), (.int .i64 y.kind), (.bool false), (.bool false), (.slice (some ⟨g, off, none⟩) n ca), (.int .i64 (m : Nat)), (.pointer (some ⟨g, off + m * 8, none⟩)), (.pointer (some ⟨g, off + m * 8 + 2, none⟩)), (.string x.txt), (.slice (some ⟨h, ofg, none⟩) n cb), (.int .i64 (m : Nat)), (.pointer (some ⟨h, ofg + m * 8, none⟩)), (.pointer (some ⟨h, ofg + m * 8 + 2, none⟩)), (.string y.txt), (.bool true), (.bool true), (.bool true), undef, undef, undef, undef, undef, undef, undef, undef, undef, undef, undef, (.bool true), (.bool true), undef, undef, undef, undef, undef, undef, undef, undef, undef, undef, undef, (.bool true)]
              rfl (by kernel_rfl) (by kernel_rfl) (by kernel_rfl) hN (Below.refl _ wr).drew (fun W W' h hB => h.trans (hB.mono h.size)) ?_ ?_
            · refine Each.val 17 (.slice (some ⟨g, off, none⟩) n ca) (by kernel_rfl) (by kernel_rfl) (by kernel_rfl) hN (fun _ _ _ => by kernel_rfl) ?_
              refine Each.val 18 (.int .i64 (m : Nat)) (by kernel_rfl) (by kernel_rfl) (by kernel_rfl) hN (fun _ _ _ => by kernel_rfl) ?_
              refine Each.val 19 (.pointer (some ⟨g, off + m * 8, none⟩)) (by kernel_rfl) (by kernel_rfl) (by kernel_rfl) hN (fun W hS _ => ex_ixo (g := g) (off := off) (n := n) (m := m) (c := ca) rfl (by kernel_rfl) (by kernel_rfl) hmn) ?_
              refine Each.val 20 (.pointer (some ⟨g, off + m * 8, none⟩)) (by kernel_rfl) (by kernel_rfl) (by kernel_rfl) hN (fun W hS _ => ex_f0 (g := g) (m := off + m * 8) rfl (by kernel_rfl)) ?_
              refine Each.val 21 (.int .i64 x.kind) (by kernel_rfl) (by kernel_rfl) (by kernel_rfl) hN (fun W hS _ => ex_l30 rfl (by kernel_rfl) (AX W hS).c0) ?_
              refine Each.val 22 (.slice (some ⟨h, ofg, none⟩) n cb) (by kernel_rfl) (by kernel_rfl) (by kernel_rfl) hN (fun _ _ _ => by kernel_rfl) ?_
              refine Each.val 23 (.int .i64 (m : Nat)) (by kernel_rfl) (by kernel_rfl) (by kernel_rfl) hN (fun _ _ _ => by kernel_rfl) ?_
              refine Each.val 24 (.pointer (some ⟨h, ofg + m * 8, none⟩)) (by kernel_rfl) (by kernel_rfl) (by kernel_rfl) hN (fun W hS _ => ex_ixo (g := h) (off := ofg) (n := n) (m := m) (c := cb) rfl (by kernel_rfl) (by kernel_rfl) hmn) ?_
              refine Each.val 25 (.pointer (some ⟨h, ofg + m * 8, none⟩)) (by kernel_rfl) (by kernel_rfl) (by kernel_rfl) hN (fun W hS _ => ex_f0 (g := h) (m := ofg + m * 8) rfl (by kernel_rfl)) ?_
              refine Each.val 26 (.int .i64 y.kind) (by kernel_rfl) (by kernel_rfl) (by kernel_rfl) hN (fun W hS _ => ex_l30 rfl (by kernel_rfl) (AY W hS).c0) ?_
              refine Each.val 27 (.bool false) (by kernel_rfl) (by kernel_rfl) (by kernel_rfl) hN (fun W hS _ => ex_n30 rfl (by kernel_rfl) (by kernel_rfl) m1) ?_
              refine Each.val 28 (.bool false) (by kernel_rfl) (by kernel_rfl) (by kernel_rfl) hN (fun _ _ _ => by kernel_rfl) ?_
              refine Each.val 29 (.slice (some ⟨g, off, none⟩) n ca) (by kernel_rfl) (by kernel_rfl) (by kernel_rfl) hN (fun _ _ _ => by kernel_rfl) ?_
              refine Each.val 30 (.int .i64 (m : Nat)) (by kernel_rfl) (by kernel_rfl) (by kernel_rfl) hN (fun _ _ _ => by kernel_rfl) ?_
              refine Each.val 31 (.pointer (some ⟨g, off + m * 8, none⟩)) (by kernel_rfl) (by kernel_rfl) (by kernel_rfl) hN (fun W hS _ => ex_ixo (g := g) (off := off) (n := n) (m := m) (c := ca) rfl (by kernel_rfl) (by kernel_rfl) hmn) ?_
              refine Each.val 32 (.pointer (some ⟨g, off + m * 8 + 2, none⟩)) (by kernel_rfl) (by kernel_rfl) (by kernel_rfl) hN (fun W hS _ => ex_f2 (g := g) (m := off + m * 8) rfl (by kernel_rfl)) ?_
              refine Each.val 33 (.string x.txt) (by kernel_rfl) (by kernel_rfl) (by kernel_rfl) hN (fun W hS _ => ex_l9 rfl (by kernel_rfl) (AX W hS).c2) ?_
              refine Each.val 34 (.slice (some ⟨h, ofg, none⟩) n cb) (by kernel_rfl) (by kernel_rfl) (by kernel_rfl) hN (fun _ _ _ => by kernel_rfl) ?_
              refine Each.val 35 (.int .i64 (m : Nat)) (by kernel_rfl) (by kernel_rfl) (by kernel_rfl) hN (fun _ _ _ => by kernel_rfl) ?_
              refine Each.val 36 (.pointer (some ⟨h, ofg + m * 8, none⟩)) (by kernel_rfl) (by kernel_rfl) (by kernel_rfl) hN (fun W hS _ => ex_ixo (g := h) (off := ofg) (n := n) (m := m) (c := cb) rfl (by kernel_rfl) (by kernel_rfl) hmn) ?_
              refine Each.val 37 (.pointer (some ⟨h, ofg + m * 8 + 2, none⟩)) (by kernel_rfl) (by kernel_rfl) (by kernel_rfl) hN (fun W hS _ => ex_f2 (g := h) (m := ofg + m * 8) rfl (by kernel_rfl)) ?_
              refine Each.val 38 (.string y.txt) (by kernel_rfl) (by kernel_rfl) (by kernel_rfl) hN (fun W hS _ => ex_l9 rfl (by kernel_rfl) (AY W hS).c2) ?_
              refine Each.val 39 (.bool true) (by kernel_rfl) (by kernel_rfl) (by kernel_rfl) hN (fun W hS _ => ex_n9 rfl (by kernel_rfl) (by kernel_rfl) m2) ?_
              refine Each.val 40 (.bool true) (by kernel_rfl) (by kernel_rfl) (by kernel_rfl) hN (fun _ _ _ => by kernel_rfl) ?_
              refine Each.val 41 (.bool true) (by kernel_rfl) (by kernel_rfl) (by kernel_rfl) hN (fun _ _ _ => by kernel_rfl) ?_
              refine Each.off 42 (by kernel_rfl) (by kernel_rfl) (by kernel_rfl) ?_
              refine Each.off 43 (by kernel_rfl) (by kernel_rfl) (by kernel_rfl) ?_
              refine Each.off 44 (by kernel_rfl) (by kernel_rfl) (by kernel_rfl) ?_
              refine Each.off 45 (by kernel_rfl) (by kernel_rfl) (by kernel_rfl) ?_
              refine Each.off 46 (by kernel_rfl) (by kernel_rfl) (by kernel_rfl) ?_
              refine Each.off 47 (by kernel_rfl) (by kernel_rfl) (by kernel_rfl) ?_
              refine Each.off 48 (by kernel_rfl) (by kernel_rfl) (by kernel_rfl) ?_
              refine Each.off 49 (by kernel_rfl) (by kernel_rfl) (by kernel_rfl) ?_
              refine Each.off 50 (by kernel_rfl) (by kernel_rfl) (by kernel_rfl) ?_
              refine Each.off 51 (by kernel_rfl) (by kernel_rfl) (by kernel_rfl) ?_
              refine Each.off 52 (by kernel_rfl) (by kernel_rfl) (by kernel_rfl) ?_
              refine Each.val 53 (.bool true) (by kernel_rfl) (by kernel_rfl) (by kernel_rfl) hN (fun _ _ _ => by kernel_rfl) ?_
              refine Each.val 54 (.bool true) (by kernel_rfl) (by kernel_rfl) (by kernel_rfl) hN (fun _ _ _ => by kernel_rfl) ?_
              refine Each.off 55 (by kernel_rfl) (by kernel_rfl) (by kernel_rfl) ?_
              refine Each.off 56 (by kernel_rfl) (by kernel_rfl) (by kernel_rfl) ?_
              refine Each.off 57 (by kernel_rfl) (by kernel_rfl) (by kernel_rfl) ?_
              refine Each.off 58 (by kernel_rfl) (by kernel_rfl) (by kernel_rfl) ?_
              refine Each.off 59 (by kernel_rfl) (by kernel_rfl) (by kernel_rfl) ?_
              refine Each.off 60 (by kernel_rfl) (by kernel_rfl) (by kernel_rfl) ?_
              refine Each.off 61 (by kernel_rfl) (by kernel_rfl) (by kernel_rfl) ?_
              refine Each.off 62 (by kernel_rfl) (by kernel_rfl) (by kernel_rfl) ?_
              refine Each.off 63 (by kernel_rfl) (by kernel_rfl) (by kernel_rfl) ?_
              refine Each.off 64 (by kernel_rfl) (by kernel_rfl) (by kernel_rfl) ?_
              refine Each.off 65 (by kernel_rfl) (by kernel_rfl) (by kernel_rfl) ?_
              refine Each.val 66 (.bool true) (by kernel_rfl) (by kernel_rfl) (by kernel_rfl) hN (fun _ _ _ => by kernel_rfl) ?_
              exact trivial
            intro wq hSq
            have HBq := Lib.hid (hB.out.trans (hSq.mono hB.out.size))
            clear hSq
            clear AX AY m1 m2
            go_wp2
            go_ret
            exact ⟨by rw [HR.out]; rfl, HBq.out⟩
          | true =>
            cases k3 : (x.set == y.set) with
            | false =>
              have m1 : (x.kind != y.kind) = false := by rw [bne, k1]; rfl
              have m2 : (x.txt.toList != y.txt.toList) = false := by rw [bne, k2]; rfl
              have m3 : (x.set != y.set) = true := by rw [bne, k3]; rfl
              have HR : Hid (sameL l k = false) := Lib.hid (by rw [hS.out, HS.out, HSW.out, k1, k2, k3]; rfl)
              clear hS HS HSW k1 k2 k3
              go_wp2
              have AX := HAX.out
              have AY := HAY.out
              refine wp_region_vals0 (N := fun W W' => Below W.heap.size W W') (S := fun W => Below wr.heap.size wr W)
                [(.slice (some ⟨g, off, none⟩) n ca), (.int .i64 (m : Nat)), (.pointer (some ⟨g, off + m * 8, none⟩)), (.pointer (some ⟨g, off + m * 8, none⟩)), (.int .i64 x.kind), (.slice (some ⟨h, ofg, none⟩) n cb), (.int .i64 (m : Nat)), (.pointer (some ⟨h, ofg + m * 8, none⟩)), (.pointer (some ⟨h, ofg + m * 8, none⟩)), (.int .i64 y.kind), (.bool false), (.bool false), (.slice (some ⟨g, off, none⟩) n ca), (.int .i64 (m : Nat)), (.pointer (some ⟨g, off + m * 8, none⟩)), (.pointer (some ⟨g, off + m * 8 + 2, none⟩)), (.string x.txt), (.slice (some ⟨h, ofg, none⟩) n cb), (.int .i64 (m : Nat)), (.pointer (some ⟨h, ofg + m * 8, none⟩)), (.pointer (some ⟨h, ofg + m * 8 + 2, none⟩)), (.string y.txt), (.bool false), (.bool false), (.bool false), (.slice (some ⟨g, off, none⟩) n ca), (.int .i64 (m : Nat)), (.pointer (some ⟨g, off + m * 8, none⟩)), (.pointer (some ⟨g, off + m * 8 + 3, none⟩)), (vset x.set), (.slice (some ⟨h, ofg, none⟩) n cb), (.int .i64 (m : Nat)), (.pointer (some ⟨h, ofg + m * 8, none⟩)), (.pointer (some ⟨h, ofg + m * 8 + 3, none⟩)), (vset y.set), (.bool true), (.bool true), (.bool true), undef, undef, undef, undef, undef, undef, undef, undef, undef, undef, undef, (.bool true)]
                #[(.slice (some ⟨g, off, none⟩) n ca), (.slice (some ⟨h, ofg, none⟩) n cb), undef, undef, u4, (.int .i64 (m : Nat)), (.slice (some ⟨g, off, none⟩) n ca), (.int .i64 (n : Nat)), (.slice (some ⟨h, ofg, none⟩) n cb), (.int .i64 (n : Nat)), (.bool false), (.int .i64 (m : Nat)), (.slice (some ⟨g, off, none⟩) n ca), (.int .i64 (n : Nat)), (.bool true), u15, u16, (.slice (some ⟨g, off, none⟩) n ca), (.int .i64 (m : Nat)), (.pointer (some ⟨g, off + m * 8, none⟩)), (.pointer (some ⟨g, off + m * 8, none⟩)), (.int .i64 x.kind), (.slice (some ⟨h, ofg, none⟩) n cb), (.int .i64 (m : Nat)), (.pointer (some ⟨h, ofg + m * 8, none⟩)), (.pointer (some ⟨h, ofg + m * 8, none⟩)), (.int .i64 y.kind), (.bool false), (.bool false), (.slice (some ⟨g, off, none⟩) n ca), (.int .i64 (m : Nat)), (.pointer (some ⟨g, off + m * 8, none⟩)), (.pointer (some ⟨g, off + m * 8 + 2, none⟩)), (.string x.txt), (.slice (some ⟨h, ofg, none⟩) n cb), (.int .i64 (m : Nat)), (.pointer (some ⟨h, ofg + m * 8, none⟩)), (.pointer (some ⟨h, ofg + m * 8 + 2, none⟩)), (.string y.txt), (.bool false), (.bool false), (.bool false), (.slice (some ⟨g, off, none⟩) n ca), (.int .i64 (m : Nat)), (.pointer (some ⟨g, off + m * 8, none⟩)), (.pointer (some ⟨g, off + m * 8 + 3, none⟩)), (vset x.set), (.slice (some ⟨h, ofg, none⟩) n cb), (.int .i64 (m : Nat)), (.pointer (some ⟨h, ofg + m * 8, none⟩)), (.pointer (some ⟨h, ofg + m * 8 + 3, none⟩)), (vset y.set), (.bool true), (.bool true), (.bool true), undef, undef, undef, undef, undef, undef, undef, undef, undef, undef, undef, (.bool true)]
                rfl (by kernel_rfl) (by kernel_rfl) (by kernel_rfl) hN (Below.refl _ wr).drew (fun W W' h hB => h.trans (hB.mono h.size)) ?_ ?_
              · refine Each.val 17 (.slice (some ⟨g, off, none⟩) n ca) (by kernel_rfl) (by kernel_rfl) (by kernel_rfl) hN (fun _ _ _ => by kernel_rfl) ?_
                refine Each.val 18 (.int .i64 (m : Nat)) (by kernel_rfl) (by kernel_rfl) (by kernel_rfl) hN (fun _ _ _ => by kernel_rfl) ?_
                refine Each.val 19 (.pointer (some ⟨g, off + m * 8, none⟩)) (by kernel_rfl) (by kernel_rfl) (by kernel_rfl) hN (fun W hS _ => ex_ixo (g := g) (off := off) (n := n) (m := m) (c := ca) rfl (by kernel_rfl) (by kernel_rfl) hmn) ?_
                refine Each.val 20 (.pointer (some ⟨g, off + m * 8, none⟩)) (by kernel_rfl) (by kernel_rfl) (by kernel_rfl) hN (fun W hS _ => ex_f0 (g := g) (m := off + m * 8) rfl (by kernel_rfl)) ?_
                refine Each.val 21 (.int .i64 x.kind) (by kernel_rfl) (by kernel_rfl) (by kernel_rfl) hN (fun W hS _ => ex_l30 rfl (by kernel_rfl) (AX W hS).c0) ?_
                refine Each.val 22 (.slice (some ⟨h, ofg, none⟩) n cb) (by kernel_rfl) (by kernel_rfl) (by kernel_rfl) hN (fun _ _ _ => by kernel_rfl) ?_
                refine Each.val 23 (.int .i64 (m : Nat)) (by kernel_rfl) (by kernel_rfl) (by kernel_rfl) hN (fun _ _ _ => by kernel_rfl) ?_
                refine Each.val 24 (.pointer (some ⟨h, ofg + m * 8, none⟩)) (by kernel_rfl) (by kernel_rfl) (by kernel_rfl) hN (fun W hS _ => ex_ixo (g := h) (off := ofg) (n := n) (m := m) (c := cb) rfl (by kernel_rfl) (by kernel_rfl) hmn) ?_
                refine Each.val 25 (.pointer (some ⟨h, ofg + m * 8, none⟩)) (by kernel_rfl) (by kernel_rfl) (by kernel_rfl) hN (fun W hS _ => ex_f0 (g := h) (m := ofg + m * 8) rfl (by kernel_rfl)) ?_
                refine Each.val 26 (.int .i64 y.kind) (by kernel_rfl) (by kernel_rfl) (by kernel_rfl) hN (fun W hS _ => ex_l30 rfl (by kernel_rfl) (AY W hS).c0) ?_
                refine Each.val 27 (.bool false) (by kernel_rfl) (by kernel_rfl) (by kernel_rfl) hN (fun W hS _ => ex_n30 rfl (by kernel_rfl) (by kernel_rfl) m1) ?_
                refine Each.val 28 (.bool false) (by kernel_rfl) (by kernel_rfl) (by kernel_rfl) hN (fun _ _ _ => by kernel_rfl) ?_
                refine Each.val 29 (.slice (some ⟨g, off, none⟩) n ca) (by kernel_rfl) (by kernel_rfl) (by kernel_rfl) hN (fun _ _ _ => by kernel_rfl) ?_
                refine Each.val 30 (.int .i64 (m : Nat)) (by kernel_rfl) (by kernel_rfl) (by kernel_rfl) hN (fun _ _ _ => by kernel_rfl) ?_
                refine Each.val 31 (.pointer (some ⟨g, off + m * 8, none⟩)) (by kernel_rfl) (by kernel_rfl) (by kernel_rfl) hN (fun W hS _ => ex_ixo (g := g) (off := off) (n := n) (m := m) (c := ca) rfl (by kernel_rfl) (by kernel_rfl) hmn) ?_
                refine Each.val 32 (.pointer (some ⟨g, off + m * 8 + 2, none⟩)) (by kernel_rfl) (by kernel_rfl) (by kernel_rfl) hN (fun W hS _ => ex_f2 (g := g) (m := off + m * 8) rfl (by kernel_rfl)) ?_
                refine Each.val 33 (.string x.txt) (by kernel_rfl) (by kernel_rfl) (by kernel_rfl) hN (fun W hS _ => ex_l9 rfl (by kernel_rfl) (AX W hS).c2) ?_
                refine Each.val 34 (.slice (some ⟨h, ofg, none⟩) n cb) (by kernel_rfl) (by kernel_rfl) (by kernel_rfl) hN (fun _ _ _ => by kernel_rfl) ?_
                refine Each.val 35 (.int .i64 (m : Nat)) (by kernel_rfl) (by kernel_rfl) (by kernel_rfl) hN (fun _ _ _ => by kernel_rfl) ?_
                refine Each.val 36 (.pointer (some ⟨h, ofg + m * 8, none⟩)) (by kernel_rfl) (by kernel_rfl) (by kernel_rfl) hN (fun W hS _ => ex_ixo (g := h) (off := ofg) (n := n) (m := m) (c := cb) rfl (by kernel_rfl) (by kernel_rfl) hmn) ?_
                refine Each.val 37 (.pointer (some ⟨h, ofg + m * 8 + 2, none⟩)) (by kernel_rfl) (by kernel_rfl) (by kernel_rfl) hN (fun W hS _ => ex_f2 (g := h) (m := ofg + m * 8) rfl (by kernel_rfl)) ?_
                refine Each.val 38 (.string y.txt) (by kernel_rfl) (by kernel_rfl) (by kernel_rfl) hN (fun W hS _ => ex_l9 rfl (by kernel_rfl) (AY W hS).c2) ?_
                refine Each.val 39 (.bool false) (by kernel_rfl) (by kernel_rfl) (by kernel_rfl) hN (fun W hS _ => ex_n9 rfl (by kernel_rfl) (by kernel_rfl) m2) ?_
                refine Each.val 40 (.bool false) (by kernel_rfl) (by kernel_rfl) (by kernel_rfl) hN (fun _ _ _ => by kernel_rfl) ?_
                refine Each.val 41 (.bool false) (by kernel_rfl) (by kernel_rfl) (by kernel_rfl) hN (fun _ _ _ => by kernel_rfl) ?_
                refine Each.val 42 (.slice (some ⟨g, off, none⟩) n ca) (by kernel_rfl) (by kernel_rfl) (by kernel_rfl) hN (fun _ _ _ => by kernel_rfl) ?_
                refine Each.val 43 (.int .i64 (m : Nat)) (by kernel_rfl) (by kernel_rfl) (by kernel_rfl) hN (fun _ _ _ => by kernel_rfl) ?_
                refine Each.val 44 (.pointer (some ⟨g, off + m * 8, none⟩)) (by kernel_rfl) (by kernel_rfl) (by kernel_rfl) hN (fun W hS _ => ex_ixo (g := g) (off := off) (n := n) (m := m) (c := ca) rfl (by kernel_rfl) (by kernel_rfl) hmn) ?_
                refine Each.val 45 (.pointer (some ⟨g, off + m * 8 + 3, none⟩)) (by kernel_rfl) (by kernel_rfl) (by kernel_rfl) hN (fun W hS _ => ex_f3 (g := g) (m := off + m * 8) rfl (by kernel_rfl)) ?_
                refine Each.val 46 (vset x.set) (by kernel_rfl) (by kernel_rfl) (by kernel_rfl) hN (fun W hS _ => ex_l33 (g := g) (m := off + m * 8 + 3) (z := x.set) rfl (by kernel_rfl) (AX W hS).c3 (AX W hS).c4 (AX W hS).c5 (AX W hS).c6) ?_
                refine Each.val 47 (.slice (some ⟨h, ofg, none⟩) n cb) (by kernel_rfl) (by kernel_rfl) (by kernel_rfl) hN (fun _ _ _ => by kernel_rfl) ?_
                refine Each.val 48 (.int .i64 (m : Nat)) (by kernel_rfl) (by kernel_rfl) (by kernel_rfl) hN (fun _ _ _ => by kernel_rfl) ?_
                refine Each.val 49 (.pointer (some ⟨h, ofg + m * 8, none⟩)) (by kernel_rfl) (by kernel_rfl) (by kernel_rfl) hN (fun W hS _ => ex_ixo (g := h) (off := ofg) (n := n) (m := m) (c := cb) rfl (by kernel_rfl) (by kernel_rfl) hmn) ?_
                refine Each.val 50 (.pointer (some ⟨h, ofg + m * 8 + 3, none⟩)) (by kernel_rfl) (by kernel_rfl) (by kernel_rfl) hN (fun W hS _ => ex_f3 (g := h) (m := ofg + m * 8) rfl (by kernel_rfl)) ?_
                refine Each.val 51 (vset y.set) (by kernel_rfl) (by kernel_rfl) (by kernel_rfl) hN (fun W hS _ => ex_l33 (g := h) (m := ofg + m * 8 + 3) (z := y.set) rfl (by kernel_rfl) (AY W hS).c3 (AY W hS).c4 (AY W hS).c5 (AY W hS).c6) ?_
                refine Each.val 52 (.bool true) (by kernel_rfl) (by kernel_rfl) (by kernel_rfl) hN (fun W hS _ => ex_n33 rfl (by kernel_rfl) (by kernel_rfl) m3) ?_
                refine Each.val 53 (.bool true) (by kernel_rfl) (by kernel_rfl) (by kernel_rfl) hN (fun _ _ _ => by kernel_rfl) ?_
                refine Each.val 54 (.bool true) (by kernel_rfl) (by kernel_rfl) (by kernel_rfl) hN (fun _ _ _ => by kernel_rfl) ?_
                refine Each.off 55 (by kernel_rfl) (by kernel_rfl) (by kernel_rfl) ?_
                refine Each.off 56 (by kernel_rfl) (by kernel_rfl) (by kernel_rfl) ?_
                refine Each.off 57 (by kernel_rfl) (by kernel_rfl) (by kernel_rfl) ?_
                refine Each.off 58 (by kernel_rfl) (by kernel_rfl) (by kernel_rfl) ?_
                refine Each.off 59 (by kernel_rfl) (by kernel_rfl) (by kernel_rfl) ?_
                refine Each.off 60 (by kernel_rfl) (by kernel_rfl) (by kernel_rfl) ?_
                refine Each.off 61 (by kernel_rfl) (by kernel_rfl) (by kernel_rfl) ?_
                refine Each.off 62 (by kernel_rfl) (by kernel_rfl) (by kernel_rfl) ?_
                refine Each.off 63 (by kernel_rfl) (by kernel_rfl) (by kernel_rfl) ?_
                refine Each.off 64 (by kernel_rfl) (by kernel_rfl) (by kernel_rfl) ?_
                refine Each.off 65 (by kernel_rfl) (by kernel_rfl) (by kernel_rfl) ?_
                refine Each.val 66 (.bool true) (by kernel_rfl) (by kernel_rfl) (by kernel_rfl) hN (fun _ _ _ => by kernel_rfl) ?_
                exact trivial
              intro wq hSq
              have HBq := Lib.hid (hB.out.trans (hSq.mono hB.out.size))
              clear hSq
              clear AX AY m1 m2 m3
              go_wp2
              go_ret
              exact ⟨by rw [HR.out]; rfl, HBq.out⟩
            | true =>
              cases k4 : (x.num == y.num) with
              | false =>
                have m1 : (x.kind != y.kind) = false := by rw [bne, k1]; rfl
                have m2 : (x.txt.toList != y.txt.toList) = false := by rw [bne, k2]; rfl
                have m3 : (x.set != y.set) = false := by rw [bne, k3]; rfl
                have m4 : (x.num != y.num) = true := by rw [bne, k4]; rfl
                have HR : Hid (sameL l k = false) := Lib.hid (by rw [hS.out, HS.out, HSW.out, k1, k2, k3, k4]; rfl)
                clear hS HS HSW k1 k2 k3 k4
                go_wp2
                have AX := HAX.out
                have AY := HAY.out
                refine wp_region_vals0 (N := fun W W' => Below W.heap.size W W') (S := fun W => Below wr.heap.size wr W)
                  [(.slice (some ⟨g, off, none⟩) n ca), (.int .i64 (m : Nat)), (.pointer (some ⟨g, off + m * 8, none⟩)), (.pointer (some ⟨g, off + m * 8, none⟩)), (.int .i64 x.kind), (.slice (some ⟨h, ofg, none⟩) n cb), (.int .i64 (m : Nat)), (.pointer (some ⟨h, ofg + m * 8, none⟩)), (.pointer (some ⟨h, ofg + m * 8, none⟩)), (.int .i64 y.kind), (.bool false), (.bool false), (.slice (some ⟨g, off, none⟩) n ca), (.int .i64 (m : Nat)), (.pointer (some ⟨g, off + m * 8, none⟩)), (.pointer (some ⟨g, off + m * 8 + 2, none⟩)), (.string x.txt), (.slice (some ⟨h, ofg, none⟩) n cb), (.int .i64 (m : Nat)), (.pointer (some ⟨h, ofg + m * 8, none⟩)), (.pointer (some ⟨h, ofg + m * 8 + 2, none⟩)), (.string y.txt), (.bool false), (.bool false), (.bool false), (.slice (some ⟨g, off, none⟩) n ca), (.int .i64 (m : Nat)), (.pointer (some ⟨g, off + m * 8, none⟩)), (.pointer (some ⟨g, off + m * 8 + 3, none⟩)), (vset x.set), (.slice (some ⟨h, ofg, none⟩) n cb), (.int .i64 (m : Nat)), (.pointer (some ⟨h, ofg + m * 8, none⟩)), (.pointer (some ⟨h, ofg + m * 8 + 3, none⟩)), (vset y.set), (.bool false), (.bool false), (.bool false), (.slice (some ⟨g, off, none⟩) n ca), (.int .i64 (m : Nat)), (.pointer (some ⟨g, off + m * 8, none⟩)), (.pointer (some ⟨g, off + m * 8 + 7, none⟩)), (.int .i64 x.num), (.slice (some ⟨h, ofg, none⟩) n cb), (.int .i64 (m : Nat)), (.pointer (some ⟨h, ofg + m * 8, none⟩)), (.pointer (some ⟨h, ofg + m * 8 + 7, none⟩)), (.int .i64 y.num), (.bool true), (.bool true)]
                  #[(.slice (some ⟨g, off, none⟩) n ca), (.slice (some ⟨h, ofg, none⟩) n cb), undef, undef, u4, (.int .i64 (m : Nat)), (.slice (some ⟨g, off, none⟩) n ca), (.int .i64 (n : Nat)), (.slice (some ⟨h, ofg, none⟩) n cb), (.int .i64 (n : Nat)), (.bool false), (.int .i64 (m : Nat)), (.slice (some ⟨g, off, none⟩) n ca), (.int .i64 (n : Nat)), (.bool true), u15, u16, (.slice (some ⟨g, off, none⟩) n ca), (.int .i64 (m : Nat)), (.pointer (some ⟨g, off + m * 8, none⟩)), (.pointer (some ⟨g, off + m * 8, none⟩)), (.int .i64 x.kind), (.slice (some ⟨h, ofg, none⟩) n cb), (.int .i64 (m : Nat)), (.pointer (some ⟨h, ofg + m * 8, none⟩)), (.pointer (some ⟨h, ofg + m * 8, none⟩)), (.int .i64 y.kind), (.bool false), (.bool false), (.slice (some ⟨g, off, none⟩) n ca), (.int .i64 (m : Nat)), (.pointer (some ⟨g, off + m * 8, none⟩)), (.pointer (some ⟨g, off + m * 8 + 2, none⟩)), (.string x.txt), (.slice (some ⟨h, ofg, none⟩) n cb), (.int .i64 (m : Nat)), (.pointer (some ⟨h, ofg + m * 8, none⟩)), (.pointer (some ⟨h, ofg + m * 8 + 2, none⟩)), (.string y.txt), (.bool false), (.bool false), (.bool false), (.slice (some ⟨g, off, none⟩) n ca), (.int .i64 (m : Nat)), (.pointer (some ⟨g, off + m * 8, none⟩)), (.pointer (some ⟨g, off + m * 8 + 3, none⟩)), (vset x.set), (.slice (some ⟨h, ofg, none⟩) n cb), (.int .i64 (m : Nat)), (.pointer (some ⟨h, ofg + m * 8, none⟩)), (.pointer (some ⟨h, ofg + m * 8 + 3, none⟩)), (vset y.set), (.bool false), (.bool false), (.bool false), (.slice (some ⟨g, off, none⟩) n ca), (.int .i64 (m : Nat)), (.pointer (some ⟨g, off + m * 8, none⟩)), (.pointer (some ⟨g, off + m * 8 + 7, none⟩)), (.int .i64 x.num), (.slice (some ⟨h, ofg, none⟩) n cb), (.int .i64 (m : Nat)), (.pointer (some ⟨h, ofg + m * 8, none⟩)), (.pointer (some ⟨h, ofg + m * 8 + 7, none⟩)), (.int .i64 y.num), (.bool true), (.bool true)]
                  rfl (by kernel_rfl) (by kernel_rfl) (by kernel_rfl) hN (Below.refl _ wr).drew (fun W W' h hB => h.trans (hB.mono h.size)) ?_ ?_
                · refine Each.val 17 (.slice (some ⟨g, off, none⟩) n ca) (by kernel_rfl) (by kernel_rfl) (by kernel_rfl) hN (fun _ _ _ => by kernel_rfl) ?_
                  refine Each.val 18 (.int .i64 (m : Nat)) (by kernel_rfl) (by kernel_rfl) (by kernel_rfl) hN (fun _ _ _ => by kernel_rfl) ?_
                  refine Each.val 19 (.pointer (some ⟨g, off + m * 8, none⟩)) (by kernel_rfl) (by kernel_rfl) (by kernel_rfl) hN (fun W hS _ => ex_ixo (g := g) (off := off) (n := n) (m := m) (c := ca) rfl (by kernel_rfl) (by kernel_rfl) hmn) ?_
                  refine Each.val 20 (.pointer (some ⟨g, off + m * 8, none⟩)) (by kernel_rfl) (by kernel_rfl) (by kernel_rfl) hN (fun W hS _ => ex_f0 (g := g) (m := off + m * 8) rfl (by kernel_rfl)) ?_
                  refine Each.val 21 (.int .i64 x.kind) (by kernel_rfl) (by kernel_rfl) (by kernel_rfl) hN (fun W hS _ => ex_l30 rfl (by kernel_rfl) (AX W hS).c0) ?_
                  refine Each.val 22 (.slice (some ⟨h, ofg, none⟩) n cb) (by kernel_rfl) (by kernel_rfl) (by kernel_rfl) hN (fun _ _ _ => by kernel_rfl) ?_
                  refine Each.val 23 (.int .i64 (m : Nat)) (by kernel_rfl) (by kernel_rfl) (by kernel_rfl) hN (fun _ _ _ => by kernel_rfl) ?_
                  refine Each.val 24 (.pointer (some ⟨h, ofg + m * 8, none⟩)) (by kernel_rfl) (by kernel_rfl) (by kernel_rfl) hN (fun W hS _ => ex_ixo (g := h) (off := ofg) (n := n) (m := m) (c := cb) rfl (by kernel_rfl) (by kernel_rfl) hmn) ?_
                  refine Each.val 25 (.pointer (some ⟨h, ofg + m * 8, none⟩)) (by kernel_rfl) (by kernel_rfl) (by kernel_rfl) hN (fun W hS _ => ex_f0 (g := h) (m := ofg + m * 8) rfl (by kernel_rfl)) ?_
                  refine Each.val 26 (.int .i64 y.kind) (by kernel_rfl) (by kernel_rfl) (by kernel_rfl) hN (fun W hS _ => ex_l30 rfl (by kernel_rfl) (AY W hS).c0) ?_
                  refine Each.val 27 (.bool false) (by kernel_rfl) (by kernel_rfl) (by kernel_rfl) hN (fun W hS _ => ex_n30 rfl (by kernel_rfl) (by kernel_rfl) m1) ?_
                  refine Each.val 28 (.bool false) (by kernel_rfl) (by kernel_rfl) (by kernel_rfl) hN (fun _ _ _ => by kernel_rfl) ?_
                  refine Each.val 29 (.slice (some ⟨g, off, none⟩) n ca) (by kernel_rfl) (by kernel_rfl) (by kernel_rfl) hN (fun _ _ _ => by kernel_rfl) ?_
                  refine Each.val 30 (.int .i64 (m : Nat)) (by kernel_rfl) (by kernel_rfl) (by kernel_rfl) hN (fun _ _ _ => by kernel_rfl) ?_
                  refine Each.val 31 (.pointer (some ⟨g, off + m * 8, none⟩)) (by kernel_rfl) (by kernel_rfl) (by kernel_rfl) hN (fun W hS _ => ex_ixo (g := g) (off := off) (n := n) (m := m) (c := ca) rfl (by kernel_rfl) (by kernel_rfl) hmn) ?_
                  refine Each.val 32 (.pointer (some ⟨g, off + m * 8 + 2, none⟩)) (by kernel_rfl) (by kernel_rfl) (by kernel_rfl) hN (fun W hS _ => ex_f2 (g := g) (m := off + m * 8) rfl (by kernel_rfl)) ?_
                  refine Each.val 33 (.string x.txt) (by kernel_rfl) (by kernel_rfl) (by kernel_rfl) hN (fun W hS _ => ex_l9 rfl (by kernel_rfl) (AX W hS).c2) ?_
                  refine Each.val 34 (.slice (some ⟨h, ofg, none⟩) n cb) (by kernel_rfl) (by kernel_rfl) (by kernel_rfl) hN (fun _ _ _ => by kernel_rfl) ?_
                  refine Each.val 35 (.int .i64 (m : Nat)) (by kernel_rfl) (by kernel_rfl) (by kernel_rfl) hN (fun _ _ _ => by kernel_rfl) ?_
                  refine Each.val 36 (.pointer (some ⟨h, ofg + m * 8, none⟩)) (by kernel_rfl) (by kernel_rfl) (by kernel_rfl) hN (fun W hS _ => ex_ixo (g := h) (off := ofg) (n := n) (m := m) (c := cb) rfl (by kernel_rfl) (by kernel_rfl) hmn) ?_
                  refine Each.val 37 (.pointer (some ⟨h, ofg + m * 8 + 2, none⟩)) (by kernel_rfl) (by kernel_rfl) (by kernel_rfl) hN (fun W hS _ => ex_f2 (g := h) (m := ofg + m * 8) rfl (by kernel_rfl)) ?_
                  refine Each.val 38 (.string y.txt) (by kernel_rfl) (by kernel_rfl) (by kernel_rfl) hN (fun W hS _ => ex_l9 rfl (by kernel_rfl) (AY W hS).c2) ?_
                  refine Each.val 39 (.bool false) (by kernel_rfl) (by kernel_rfl) (by kernel_rfl) hN (fun W hS _ => ex_n9 rfl (by kernel_rfl) (by kernel_rfl) m2) ?_
                  refine Each.val 40 (.bool false) (by kernel_rfl) (by kernel_rfl) (by kernel_rfl) hN (fun _ _ _ => by kernel_rfl) ?_
                  refine Each.val 41 (.bool false) (by kernel_rfl) (by kernel_rfl) (by kernel_rfl) hN (fun _ _ _ => by kernel_rfl) ?_
                  refine Each.val 42 (.slice (some ⟨g, off, none⟩) n ca) (by kernel_rfl) (by kernel_rfl) (by kernel_rfl) hN (fun _ _ _ => by kernel_rfl) ?_
                  refine Each.val 43 (.int .i64 (m : Nat)) (by kernel_rfl) (by kernel_rfl) (by kernel_rfl) hN (fun _ _ _ => by kernel_rfl) ?_
                  refine Each.val 44 (.pointer (some ⟨g, off + m * 8, none⟩)) (by kernel_rfl) (by kernel_rfl) (by kernel_rfl) hN (fun W hS _ => ex_ixo (g := g) (off := off) (n := n) (m := m) (c := ca) rfl (by kernel_rfl) (by kernel_rfl) hmn) ?_
                  refine Each.val 45 (.pointer (some ⟨g, off + m * 8 + 3, none⟩)) (by kernel_rfl) (by kernel_rfl) (by kernel_rfl) hN (fun W hS _ => ex_f3 (g := g) (m := off + m * 8) rfl (by kernel_rfl)) ?_
                  refine Each.val 46 (vset x.set) (by kernel_rfl) (by kernel_rfl) (by kernel_rfl) hN (fun W hS _ => ex_l33 (g := g) (m := off + m * 8 + 3) (z := x.set) rfl (by kernel_rfl) (AX W hS).c3 (AX W hS).c4 (AX W hS).c5 (AX W hS).c6) ?_
                  refine Each.val 47 (.slice (some ⟨h, ofg, none⟩) n cb) (by kernel_rfl) (by kernel_rfl) (by kernel_rfl) hN (fun _ _ _ => by kernel_rfl) ?_
                  refine Each.val 48 (.int .i64 (m : Nat)) (by kernel_rfl) (by kernel_rfl) (by kernel_rfl) hN (fun _ _ _ => by kernel_rfl) ?_
                  refine Each.val 49 (.pointer (some ⟨h, ofg + m * 8, none⟩)) (by kernel_rfl) (by kernel_rfl) (by kernel_rfl) hN (fun W hS _ => ex_ixo (g := h) (off := ofg) (n := n) (m := m) (c := cb) rfl (by kernel_rfl) (by kernel_rfl) hmn) ?_
                  refine Each.val 50 (.pointer (some ⟨h, ofg + m * 8 + 3, none⟩)) (by kernel_rfl) (by kernel_rfl) (by kernel_rfl) hN (fun W hS _ => ex_f3 (g := h) (m := ofg + m * 8) rfl (by kernel_rfl)) ?_
                  refine Each.val 51 (vset y.set) (by kernel_rfl) (by kernel_rfl) (by kernel_rfl) hN (fun W hS _ => ex_l33 (g := h) (m := ofg + m * 8 + 3) (z := y.set) rfl (by kernel_rfl) (AY W hS).c3 (AY W hS).c4 (AY W hS).c5 (AY W hS).c6) ?_
                  refine Each.val 52 (.bool false) (by kernel_rfl) (by kernel_rfl) (by kernel_rfl) hN (fun W hS _ => ex_n33 rfl (by kernel_rfl) (by kernel_rfl) m3) ?_
                  refine Each.val 53 (.bool false) (by kernel_rfl) (by kernel_rfl) (by kernel_rfl) hN (fun _ _ _ => by kernel_rfl) ?_
                  refine Each.val 54 (.bool false) (by kernel_rfl) (by kernel_rfl) (by kernel_rfl) hN (fun _ _ _ => by kernel_rfl) ?_
                  refine Each.val 55 (.slice (some ⟨g, off, none⟩) n ca) (by kernel_rfl) (by kernel_rfl) (by kernel_rfl) hN (fun _ _ _ => by kernel_rfl) ?_
                  refine Each.val 56 (.int .i64 (m : Nat)) (by kernel_rfl) (by kernel_rfl) (by kernel_rfl) hN (fun _ _ _ => by kernel_rfl) ?_
                  refine Each.val 57 (.pointer (some ⟨g, off + m * 8, none⟩)) (by kernel_rfl) (by kernel_rfl) (by kernel_rfl) hN (fun W hS _ => ex_ixo (g := g) (off := off) (n := n) (m := m) (c := ca) rfl (by kernel_rfl) (by kernel_rfl) hmn) ?_
                  refine Each.val 58 (.pointer (some ⟨g, off + m * 8 + 7, none⟩)) (by kernel_rfl) (by kernel_rfl) (by kernel_rfl) hN (fun W hS _ => ex_f4 (g := g) (m := off + m * 8) rfl (by kernel_rfl)) ?_
                  refine Each.val 59 (.int .i64 x.num) (by kernel_rfl) (by kernel_rfl) (by kernel_rfl) hN (fun W hS _ => ex_l3 rfl (by kernel_rfl) (AX W hS).c7) ?_
                  refine Each.val 60 (.slice (some ⟨h, ofg, none⟩) n cb) (by kernel_rfl) (by kernel_rfl) (by kernel_rfl) hN (fun _ _ _ => by kernel_rfl) ?_
                  refine Each.val 61 (.int .i64 (m : Nat)) (by kernel_rfl) (by kernel_rfl) (by kernel_rfl) hN (fun _ _ _ => by kernel_rfl) ?_
                  refine Each.val 62 (.pointer (some ⟨h, ofg + m * 8, none⟩)) (by kernel_rfl) (by kernel_rfl) (by kernel_rfl) hN (fun W hS _ => ex_ixo (g := h) (off := ofg) (n := n) (m := m) (c := cb) rfl (by kernel_rfl) (by kernel_rfl) hmn) ?_
                  refine Each.val 63 (.pointer (some ⟨h, ofg + m * 8 + 7, none⟩)) (by kernel_rfl) (by kernel_rfl) (by kernel_rfl) hN (fun W hS _ => ex_f4 (g := h) (m := ofg + m * 8) rfl (by kernel_rfl)) ?_
                  refine Each.val 64 (.int .i64 y.num) (by kernel_rfl) (by kernel_rfl) (by kernel_rfl) hN (fun W hS _ => ex_l3 rfl (by kernel_rfl) (AY W hS).c7) ?_
                  refine Each.val 65 (.bool true) (by kernel_rfl) (by kernel_rfl) (by kernel_rfl) hN (fun W hS _ => ex_n3 rfl (by kernel_rfl) (by kernel_rfl) m4) ?_
                  refine Each.val 66 (.bool true) (by kernel_rfl) (by kernel_rfl) (by kernel_rfl) hN (fun _ _ _ => by kernel_rfl) ?_
                  exact trivial
                intro wq hSq
                have HBq := Lib.hid (hB.out.trans (hSq.mono hB.out.size))
                clear hSq
                clear AX AY m1 m2 m3 m4
                go_wp2
                go_ret
                exact ⟨by rw [HR.out]; rfl, HBq.out⟩
              | true =>
                have m1 : (x.kind != y.kind) = false := by rw [bne, k1]; rfl
                have m2 : (x.txt.toList != y.txt.toList) = false := by rw [bne, k2]; rfl
                have m3 : (x.set != y.set) = false := by rw [bne, k3]; rfl
                have m4 : (x.num != y.num) = false := by rw [bne, k4]; rfl
                have HR : Hid (sameL l k = sameL (l.drop (m + 1)) (k.drop (m + 1))) := Lib.hid (by rw [hS.out, HS.out, HSW.out, k1, k2, k3, k4]; rfl)
                clear hS HS HSW k1 k2 k3 k4
                go_wp2
                have AX := HAX.out
                have AY := HAY.out
                refine wp_region_vals0 (N := fun W W' => Below W.heap.size W W') (S := fun W => Below wr.heap.size wr W)
                  [(.slice (some ⟨g, off, none⟩) n ca), (.int .i64 (m : Nat)), (.pointer (some ⟨g, off + m * 8, none⟩)), (.pointer (some ⟨g, off + m * 8, none⟩)), (.int .i64 x.kind), (.slice (some ⟨h, ofg, none⟩) n cb), (.int .i64 (m : Nat)), (.pointer (some ⟨h, ofg + m * 8, none⟩)), (.pointer (some ⟨h, ofg + m * 8, none⟩)), (.int .i64 y.kind), (.bool false), (.bool false), (.slice (some ⟨g, off, none⟩) n ca), (.int .i64 (m : Nat)), (.pointer (some ⟨g, off + m * 8, none⟩)), (.pointer (some ⟨g, off + m * 8 + 2, none⟩)), (.string x.txt), (.slice (some ⟨h, ofg, none⟩) n cb), (.int .i64 (m : Nat)), (.pointer (some ⟨h, ofg + m * 8, none⟩)), (.pointer (some ⟨h, ofg + m * 8 + 2, none⟩)), (.string y.txt), (.bool false), (.bool false), (.bool false), (.slice (some ⟨g, off, none⟩) n ca), (.int .i64 (m : Nat)), (.pointer (some ⟨g, off + m * 8, none⟩)), (.pointer (some ⟨g, off + m * 8 + 3, none⟩)), (vset x.set), (.slice (some ⟨h, ofg, none⟩) n cb), (.int .i64 (m : Nat)), (.pointer (some ⟨h, ofg + m * 8, none⟩)), (.pointer (some ⟨h, ofg + m * 8 + 3, none⟩)), (vset y.set), (.bool false), (.bool false), (.bool false), (.slice (some ⟨g, off, none⟩) n ca), (.int .i64 (m : Nat)), (.pointer (some ⟨g, off + m * 8, none⟩)), (.pointer (some ⟨g, off + m * 8 + 7, none⟩)), (.int .i64 x.num), (.slice (some ⟨h, ofg, none⟩) n cb), (.int .i64 (m : Nat)), (.pointer (some ⟨h, ofg + m * 8, none⟩)), (.pointer (some ⟨h, ofg + m * 8 + 7, none⟩)), (.int .i64 y.num), (.bool false), (.bool false)]
                  #[(.slice (some ⟨g, off, none⟩) n ca), (.slice (some ⟨h, ofg, none⟩) n cb), undef, undef, u4, (.int .i64 (m : Nat)), (.slice (some ⟨g, off, none⟩) n ca), (.int .i64 (n : Nat)), (.slice (some ⟨h, ofg, none⟩) n cb), (.int .i64 (n : Nat)), (.bool false), (.int .i64 (m : Nat)), (.slice (some ⟨g, off, none⟩) n ca), (.int .i64 (n : Nat)), (.bool true), u15, u16, (.slice (some ⟨g, off, none⟩) n ca), (.int .i64 (m : Nat)), (.pointer (some ⟨g, off + m * 8, none⟩)), (.pointer (some ⟨g, off + m * 8, none⟩)), (.int .i64 x.kind), (.slice (some ⟨h, ofg, none⟩) n cb), (.int .i64 (m : Nat)), (.pointer (some ⟨h, ofg + m * 8, none⟩)), (.pointer (some ⟨h, ofg + m * 8, none⟩)), (.int .i64 y.kind), (.bool false), (.bool false), (.slice (some ⟨g, off, none⟩) n ca), (.int .i64 (m : Nat)), (.pointer (some ⟨g, off + m * 8, none⟩)), (.pointer (some ⟨g, off + m * 8 + 2, none⟩)), (.string x.txt), (.slice (some ⟨h, ofg, none⟩) n cb), (.int .i64 (m : Nat)), (.pointer (some ⟨h, ofg + m * 8, none⟩)), (.pointer (some ⟨h, ofg + m * 8 + 2, none⟩)), (.string y.txt), (.bool false), (.bool false), (.bool false), (.slice (some ⟨g, off, none⟩) n ca), (.int .i64 (m : Nat)), (.pointer (some ⟨g, off + m * 8, none⟩)), (.pointer (some ⟨g, off + m * 8 + 3, none⟩)), (vset x.set), (.slice (some ⟨h, ofg, none⟩) n cb), (.int .i64 (m : Nat)), (.pointer (some ⟨h, ofg + m * 8, none⟩)), (.pointer (some ⟨h, ofg + m * 8 + 3, none⟩)), (vset y.set), (.bool false), (.bool false), (.bool false), (.slice (some ⟨g, off, none⟩) n ca), (.int .i64 (m : Nat)), (.pointer (some ⟨g, off + m * 8, none⟩)), (.pointer (some ⟨g, off + m * 8 + 7, none⟩)), (.int .i64 x.num), (.slice (some ⟨h, ofg, none⟩) n cb), (.int .i64 (m : Nat)), (.pointer (some ⟨h, ofg + m * 8, none⟩)), (.pointer (some ⟨h, ofg + m * 8 + 7, none⟩)), (.int .i64 y.num), (.bool false), (.bool false)]
                  rfl (by kernel_rfl) (by kernel_rfl) (by kernel_rfl) hN (Below.refl _ wr).drew (fun W W' h hB => h.trans (hB.mono h.size)) ?_ ?_
                · refine Each.val 17 (.slice (some ⟨g, off, none⟩) n ca) (by kernel_rfl) (by kernel_rfl) (by kernel_rfl) hN (fun _ _ _ => by kernel_rfl) ?_
                  refine Each.val 18 (.int .i64 (m : Nat)) (by kernel_rfl) (by kernel_rfl) (by kernel_rfl) hN (fun _ _ _ => by kernel_rfl) ?_
                  refine Each.val 19 (.pointer (some ⟨g, off + m * 8, none⟩)) (by kernel_rfl) (by kernel_rfl) (by kernel_rfl) hN (fun W hS _ => ex_ixo (g := g) (off := off) (n := n) (m := m) (c := ca) rfl (by kernel_rfl) (by kernel_rfl) hmn) ?_
                  refine Each.val 20 (.pointer (some ⟨g, off + m * 8, none⟩)) (by kernel_rfl) (by kernel_rfl) (by kernel_rfl) hN (fun W hS _ => ex_f0 (g := g) (m := off + m * 8) rfl (by kernel_rfl)) ?_
                  refine Each.val 21 (.int .i64 x.kind) (by kernel_rfl) (by kernel_rfl) (by kernel_rfl) hN (fun W hS _ => ex_l30 rfl (by kernel_rfl) (AX W hS).c0) ?_
                  refine Each.val 22 (.slice (some ⟨h, ofg, none⟩) n cb) (by kernel_rfl) (by kernel_rfl) (by kernel_rfl) hN (fun _ _ _ => by kernel_rfl) ?_
                  refine Each.val 23 (.int .i64 (m : Nat)) (by kernel_rfl) (by kernel_rfl) (by kernel_rfl) hN (fun _ _ _ => by kernel_rfl) ?_
                  refine Each.val 24 (.pointer (some ⟨h, ofg + m * 8, none⟩)) (by kernel_rfl) (by kernel_rfl) (by kernel_rfl) hN (fun W hS _ => ex_ixo (g := h) (off := ofg) (n := n) (m := m) (c := cb) rfl (by kernel_rfl) (by kernel_rfl) hmn) ?_
                  refine Each.val 25 (.pointer (some ⟨h, ofg + m * 8, none⟩)) (by kernel_rfl) (by kernel_rfl) (by kernel_rfl) hN (fun W hS _ => ex_f0 (g := h) (m := ofg + m * 8) rfl (by kernel_rfl)) ?_
                  refine Each.val 26 (.int .i64 y.kind) (by kernel_rfl) (by kernel_rfl) (by kernel_rfl) hN (fun W hS _ => ex_l30 rfl (by kernel_rfl) (AY W hS).c0) ?_
                  refine Each.val 27 (.bool false) (by kernel_rfl) (by kernel_rfl) (by kernel_rfl) hN (fun W hS _ => ex_n30 rfl (by kernel_rfl) (by kernel_rfl) m1) ?_
                  refine Each.val 28 (.bool false) (by kernel_rfl) (by kernel_rfl) (by kernel_rfl) hN (fun _ _ _ => by kernel_rfl) ?_
                  refine Each.val 29 (.slice (some ⟨g, off, none⟩) n ca) (by kernel_rfl) (by kernel_rfl) (by kernel_rfl) hN (fun _ _ _ => by kernel_rfl) ?_
                  refine Each.val 30 (.int .i64 (m : Nat)) (by kernel_rfl) (by kernel_rfl) (by kernel_rfl) hN (fun _ _ _ => by kernel_rfl) ?_
                  refine Each.val 31 (.pointer (some ⟨g, off + m * 8, none⟩)) (by kernel_rfl) (by kernel_rfl) (by kernel_rfl) hN (fun W hS _ => ex_ixo (g := g) (off := off) (n := n) (m := m) (c := ca) rfl (by kernel_rfl) (by kernel_rfl) hmn) ?_
                  refine Each.val 32 (.pointer (some ⟨g, off + m * 8 + 2, none⟩)) (by kernel_rfl) (by kernel_rfl) (by kernel_rfl) hN (fun W hS _ => ex_f2 (g := g) (m := off + m * 8) rfl (by kernel_rfl)) ?_
                  refine Each.val 33 (.string x.txt) (by kernel_rfl) (by kernel_rfl) (by kernel_rfl) hN (fun W hS _ => ex_l9 rfl (by kernel_rfl) (AX W hS).c2) ?_
                  refine Each.val 34 (.slice (some ⟨h, ofg, none⟩) n cb) (by kernel_rfl) (by kernel_rfl) (by kernel_rfl) hN (fun _ _ _ => by kernel_rfl) ?_
                  refine Each.val 35 (.int .i64 (m : Nat)) (by kernel_rfl) (by kernel_rfl) (by kernel_rfl) hN (fun _ _ _ => by kernel_rfl) ?_
                  refine Each.val 36 (.pointer (some ⟨h, ofg + m * 8, none⟩)) (by kernel_rfl) (by kernel_rfl) (by kernel_rfl) hN (fun W hS _ => ex_ixo (g := h) (off := ofg) (n := n) (m := m) (c := cb) rfl (by kernel_rfl) (by kernel_rfl) hmn) ?_
                  refine Each.val 37 (.pointer (some ⟨h, ofg + m * 8 + 2, none⟩)) (by kernel_rfl) (by kernel_rfl) (by kernel_rfl) hN (fun W hS _ => ex_f2 (g := h) (m := ofg + m * 8) rfl (by kernel_rfl)) ?_
                  refine Each.val 38 (.string y.txt) (by kernel_rfl) (by kernel_rfl) (by kernel_rfl) hN (fun W hS _ => ex_l9 rfl (by kernel_rfl) (AY W hS).c2) ?_
                  refine Each.val 39 (.bool false) (by kernel_rfl) (by kernel_rfl) (by kernel_rfl) hN (fun W hS _ => ex_n9 rfl (by kernel_rfl) (by kernel_rfl) m2) ?_
                  refine Each.val 40 (.bool false) (by kernel_rfl) (by kernel_rfl) (by kernel_rfl) hN (fun _ _ _ => by kernel_rfl) ?_
                  refine Each.val 41 (.bool false) (by kernel_rfl) (by kernel_rfl) (by kernel_rfl) hN (fun _ _ _ => by kernel_rfl) ?_
                  refine Each.val 42 (.slice (some ⟨g, off, none⟩) n ca) (by kernel_rfl) (by kernel_rfl) (by kernel_rfl) hN (fun _ _ _ => by kernel_rfl) ?_
                  refine Each.val 43 (.int .i64 (m : Nat)) (by kernel_rfl) (by kernel_rfl) (by kernel_rfl) hN (fun _ _ _ => by kernel_rfl) ?_
                  refine Each.val 44 (.pointer (some ⟨g, off + m * 8, none⟩)) (by kernel_rfl) (by kernel_rfl) (by kernel_rfl) hN (fun W hS _ => ex_ixo (g := g) (off := off) (n := n) (m := m) (c := ca) rfl (by kernel_rfl) (by kernel_rfl) hmn) ?_
                  refine Each.val 45 (.pointer (some ⟨g, off + m * 8 + 3, none⟩)) (by kernel_rfl) (by kernel_rfl) (by kernel_rfl) hN (fun W hS _ => ex_f3 (g := g) (m := off + m * 8) rfl (by kernel_rfl)) ?_
                  refine Each.val 46 (vset x.set) (by kernel_rfl) (by kernel_rfl) (by kernel_rfl) hN (fun W hS _ => ex_l33 (g := g) (m := off + m * 8 + 3) (z := x.set) rfl (by kernel_rfl) (AX W hS).c3 (AX W hS).c4 (AX W hS).c5 (AX W hS).c6) ?_
                  refine Each.val 47 (.slice (some ⟨h, ofg, none⟩) n cb) (by kernel_rfl) (by kernel_rfl) (by kernel_rfl) hN (fun _ _ _ => by kernel_rfl) ?_
                  refine Each.val 48 (.int .i64 (m : Nat)) (by kernel_rfl) (by kernel_rfl) (by kernel_rfl) hN (fun _ _ _ => by kernel_rfl) ?_
                  refine Each.val 49 (.pointer (some ⟨h, ofg + m * 8, none⟩)) (by kernel_rfl) (by kernel_rfl) (by kernel_rfl) hN (fun W hS _ => ex_ixo (g := h) (off := ofg) (n := n) (m := m) (c := cb) rfl (by kernel_rfl) (by kernel_rfl) hmn) ?_
                  refine Each.val 50 (.pointer (some ⟨h, ofg + m * 8 + 3, none⟩)) (by kernel_rfl) (by kernel_rfl) (by kernel_rfl) hN (fun W hS _ => ex_f3 (g := h) (m := ofg + m * 8) rfl (by kernel_rfl)) ?_
                  refine Each.val 51 (vset y.set) (by kernel_rfl) (by kernel_rfl) (by kernel_rfl) hN (fun W hS _ => ex_l33 (g := h) (m := ofg + m * 8 + 3) (z := y.set) rfl (by kernel_rfl) (AY W hS).c3 (AY W hS).c4 (AY W hS).c5 (AY W hS).c6) ?_
                  refine Each.val 52 (.bool false) (by kernel_rfl) (by kernel_rfl) (by kernel_rfl) hN (fun W hS _ => ex_n33 rfl (by kernel_rfl) (by kernel_rfl) m3) ?_
                  refine Each.val 53 (.bool false) (by kernel_rfl) (by kernel_rfl) (by kernel_rfl) hN (fun _ _ _ => by kernel_rfl) ?_
                  refine Each.val 54 (.bool false) (by kernel_rfl) (by kernel_rfl) (by kernel_rfl) hN (fun _ _ _ => by kernel_rfl) ?_
                  refine Each.val 55 (.slice (some ⟨g, off, none⟩) n ca) (by kernel_rfl) (by kernel_rfl) (by kernel_rfl) hN (fun _ _ _ => by kernel_rfl) ?_
                  refine Each.val 56 (.int .i64 (m : Nat)) (by kernel_rfl) (by kernel_rfl) (by kernel_rfl) hN (fun _ _ _ => by kernel_rfl) ?_
                  refine Each.val 57 (.pointer (some ⟨g, off + m * 8, none⟩)) (by kernel_rfl) (by kernel_rfl) (by kernel_rfl) hN (fun W hS _ => ex_ixo (g := g) (off := off) (n := n) (m := m) (c := ca) rfl (by kernel_rfl) (by kernel_rfl) hmn) ?_
                  refine Each.val 58 (.pointer (some ⟨g, off + m * 8 + 7, none⟩)) (by kernel_rfl) (by kernel_rfl) (by kernel_rfl) hN (fun W hS _ => ex_f4 (g := g) (m := off + m * 8) rfl (by kernel_rfl)) ?_
                  refine Each.val 59 (.int .i64 x.num) (by kernel_rfl) (by kernel_rfl) (by kernel_rfl) hN (fun W hS _ => ex_l3 rfl (by kernel_rfl) (AX W hS).c7) ?_
                  refine Each.val 60 (.slice (some ⟨h, ofg, none⟩) n cb) (by kernel_rfl) (by kernel_rfl) (by kernel_rfl) hN (fun _ _ _ => by kernel_rfl) ?_
                  refine Each.val 61 (.int .i64 (m : Nat)) (by kernel_rfl) (by kernel_rfl) (by kernel_rfl) hN (fun _ _ _ => by kernel_rfl) ?_
                  refine Each.val 62 (.pointer (some ⟨h, ofg + m * 8, none⟩)) (by kernel_rfl) (by kernel_rfl) (by kernel_rfl) hN (fun W hS _ => ex_ixo (g := h) (off := ofg) (n := n) (m := m) (c := cb) rfl (by kernel_rfl) (by kernel_rfl) hmn) ?_
                  refine Each.val 63 (.pointer (some ⟨h, ofg + m * 8 + 7, none⟩)) (by kernel_rfl) (by kernel_rfl) (by kernel_rfl) hN (fun W hS _ => ex_f4 (g := h) (m := ofg + m * 8) rfl (by kernel_rfl)) ?_
                  refine Each.val 64 (.int .i64 y.num) (by kernel_rfl) (by kernel_rfl) (by kernel_rfl) hN (fun W hS _ => ex_l3 rfl (by kernel_rfl) (AY W hS).c7) ?_
                  refine Each.val 65 (.bool false) (by kernel_rfl) (by kernel_rfl) (by kernel_rfl) hN (fun W hS _ => ex_n3 rfl (by kernel_rfl) (by kernel_rfl) m4) ?_
                  refine Each.val 66 (.bool false) (by kernel_rfl) (by kernel_rfl) (by kernel_rfl) hN (fun _ _ _ => by kernel_rfl) ?_
                  exact trivial
                intro wq hSq
                have HBq := Lib.hid (hB.out.trans (hSq.mono hB.out.size))
                clear hSq
                clear AX AY m1 m2 m3 m4
                go_wp2
                go_roundw
                case rel => exact ⟨m + 1, by go_num, by omega, HR, HBq⟩
                case measure => simp [intOf]; omega
      · obtain rfl : m = n := by omega
        have HS2 : Hid (sameL l k = true) := by
          refine Lib.hid ?_
          rw [hS.out, List.drop_eq_nil_of_le (by rw [HN.out.1]; exact Nat.le_refl _), List.drop_eq_nil_of_le (by rw [HN.out.2]; exact Nat.le_refl _)]
          rfl
        clear hS
        go_wp2
        go_ret
        exact ⟨by rw [HS2.out]; rfl, hB.out⟩
  · have HS := Lib.hid (sameL_len l k hne)
    have n1 : ¬ (l.length : Int) = (k.length : Int) := by omega
    go_enter Tryz.func16, Tryz.ntmps16
    go_wp2
    go_ret
    exact ⟨by rw [HS.out]; rfl, Below.refl _ _⟩
end Go.Proofs.YtdodkbpagbblmaaGreatDoor
end
section
namespace Go.Proofs.YtdodkbpagbblmaaGreatDoor
open Go Go.RowKit

theorem eq_selfA (x : Wd) (a b : Int) (h : a = b) (w : World) : (Op.equalIn 10000 35 (.agg (wordC x a)) (.agg (wordC x b))).run Tryz.prog w = .ok true w := by
  have k := eq_wds 9996 x x a b w
  have e : (x.kind == x.kind && (a == b && (x.txt.toList == x.txt.toList && (x.set == x.set && x.num == x.num)))) = true := by simp [h]
  rw [e] at k
  exact k
theorem sameW_comm (x y : Wd) : sameW x y = sameW y x := by
  unfold sameW
  rw [BEq.comm (a := x.kind), BEq.comm (a := x.txt.toList), BEq.comm (a := x.set), BEq.comm (a := x.num)]
theorem sameL_comm : ∀ (l k : List (Wd × Int)), sameL l k = sameL k l := by
  intro l
  induction l with
  | nil => intro k; cases k <;> rfl
  | cons x l ih =>
    intro k
    cases k with
    | nil => rfl
    | cons y k => unfold sameL; rw [sameW_comm, ih]
theorem print_of (l : List (Wd × Int)) (s : ByteArray) (er : Int) (hR : printR l = (s, er)) (n : Nat) (hn : l.length = n) (hn1 : n ≤ 1048576) (hs : Sm5 l) (W : World) (b : Option Addr) (cb : Nat) (hG : GlobD W) (hr : RowW W b l) :
    Calls Tryz.prog 13 #[.slice b n cb] W fun e w' => e = .returned (.tuple #[.string s, .int .i64 er]) ∧ Below W.heap.size W w' := by
  subst hn
  have h := print_any b cb l W hG hr hn1 (fun x hx => by have := hs x hx; exact ⟨⟨by omega, .inr (by omega)⟩, this.2.1, this.2.2⟩)
  rw [hR] at h
  exact h
theorem rprint_of (l : List (Wd × Int)) (s : ByteArray) (er : Int) (hR : printR l = (s, er)) (n : Nat) (hn : l.length = n) (hn1 : n ≤ 300) (hs : Sm5 l) (W : World) (b : Option Addr) (cb : Nat) (hG : GlobD W) (hr : RowW W b l) :
    Calls Tryz.prog 14 #[.slice b n cb] W fun e w' => e = .returned (.tuple #[.string s, .int .i64 er]) ∧ Below W.heap.size W w' := by
  have h := rprint_any b cb l n hn hn1 hs W hG hr
  rw [hR] at h
  exact h
theorem same_of (l k : List (Wd × Int)) (n m : Nat) (r : Bool) (hn : l.length = n) (hm : k.length = m) (hn1 : n ≤ 1048576) (hm1 : m ≤ 1048576) (hS : sameL l k = r) (W : World) (a b : Option Addr) (ca cb : Nat) (ha : RowW W a l) (hb : RowW W b k) :
    Calls Tryz.prog 15 #[.slice a n ca, .slice b m cb] W fun e w' => e = .returned (.bool r) ∧ Below W.heap.size W w' := by
  subst hn
  subst hm
  have h := same_any a b ca cb l k W ha hb hn1 hm1
  rw [hS] at h
  exact h
theorem rsame_of (l k : List (Wd × Int)) (n m : Nat) (r : Bool) (hn : l.length = n) (hm : k.length = m) (hn1 : n ≤ 1048576) (hm1 : m ≤ 1048576) (hS : sameL l k = r) (W : World) (a b : Option Addr) (ca cb : Nat) (ha : RowW W a l) (hb : RowW W b k) :
    Calls Tryz.prog 16 #[.slice a n ca, .slice b m cb] W fun e w' => e = .returned (.bool r) ∧ Below W.heap.size W w' := by
  subst hn
  subst hm
  have h := rsame_any a b ca cb l k W ha hb hn1 hm1
  rw [hS] at h
  exact h

set_option maxRecDepth 100000 in
set_option maxHeartbeats 4000000 in
theorem lawPrints_big (a b : Option Addr) (ca cb : Nat) (l k : List (Wd × Int)) (w : World) (hG : GlobD w) (h : 300 < l.length ∨ 300 < k.length) :
    Calls Tryz.prog 4 #[.slice a l.length ca, .slice b k.length cb] w fun e w' => e = .returned (.bool true) ∧ Below w.heap.size w w' := by
  have HW := Lib.hid (works_any w hG)
  clear hG
  by_cases h1 : 300 < l.length
  · have n1 : (300 : Int) < (l.length : Int) := by omega
    clear h
    go_enter Tryz.func4, Tryz.ntmps4
    go_wp2_with (go_at_call 6; refine HW.out.mono ?_; rintro e w1 ⟨rfl, hB⟩)
    go_ret
    exact ⟨rfl, hB⟩
  · have h2 : 300 < k.length := h.resolve_left h1
    have n1 : ¬ (300 : Int) < (l.length : Int) := by omega
    have n2 : (300 : Int) < (k.length : Int) := by omega
    clear h
    go_enter Tryz.func4, Tryz.ntmps4
    go_wp2_with (go_at_call 6; refine HW.out.mono ?_; rintro e w1 ⟨rfl, hB⟩)
    go_ret
    exact ⟨rfl, hB⟩

set_option maxRecDepth 100000 in
set_option maxHeartbeats 4000000 in
theorem lawPrints_long (a b : Option Addr) (ca cb : Nat) (l k : List (Wd × Int)) (w : World) (hG : GlobD w) (hl : RowW w a l) (hn : l.length ≤ 300) (hk : k.length ≤ 300) (hx : ∃ x ∈ l, 5000 < x.1.txt.size) :
    Calls Tryz.prog 4 #[.slice a l.length ca, .slice b k.length cb] w fun e w' => e = .returned (.bool true) ∧ Below w.heap.size w w' := by
  have HW := Lib.hid (fun W hW => works_any W hW)
  have HG := Lib.hid hG
  have HD := Lib.hid hl
  have HX := Lib.hid hx
  obtain ⟨n, hnn⟩ : ∃ n, n = l.length := ⟨_, rfl⟩
  have HN : Hid (l.length = n) := hnn.symm
  rw [← hnn] at hn ⊢
  have n1 : ¬ (300 : Int) < (n : Int) := by omega
  have n2 : ¬ (300 : Int) < (k.length : Int) := by omega
  clear hG hl hx hnn
  go_enter Tryz.func4, Tryz.ntmps4
  go_wp2
  go_loopw [5] (fun i wr => ∃ m : Nat, i = .int .i64 m ∧ m ≤ n ∧ Hid (∀ x ∈ l.take m, x.1.txt.size ≤ 5000) ∧ Hid (Below w.heap.size w wr))
    (fun i _ => n - (intOf i).toNat)
  case atStart => exact ⟨0, rfl, Nat.zero_le _, Lib.hid (by simp), Below.refl _ _⟩
  case round =>
    obtain ⟨m, rfl, hm, hA, hB⟩ := hrel
    have hszr := hB.out.size
    by_cases hlt : m < n
    · have n3 : (m : Int) < (n : Int) := by omega
      have HXm : Hid (l[m]? = some (l[m]'(by rw [HN.out]; exact hlt))) := Lib.hid (List.getElem?_eq_getElem _)
      obtain ⟨x, hxe⟩ : ∃ x, l[m]'(by rw [HN.out]; exact hlt) = x := ⟨_, rfl⟩
      rw [hxe] at HXm
      clear hxe
      have HTk : Hid (l.take (m + 1) = l.take m ++ [x]) := Lib.hid (by rw [List.take_add_one, HXm.out]; rfl)
      by_cases hbig : 5000 < x.1.txt.size
      · obtain ⟨x, ax⟩ := x
        obtain ⟨g, off, rfl, hW⟩ := HD.out m _ HXm.out
        have hW := hW.below hB.out hW.lt
        have bg := hW.lt
        obtain ⟨c0, c1, c2, c3, c4, c5, c6, c7⟩ := hW
        dsimp only at c0 c1 c2 c3 c4 c5 c6 c7 hbig
        have n4 : (5000 : Int) < (x.txt.size : Int) := by omega
        clear HTk hA
        go_wp2_with (go_at_call 6; refine (HW.out _ (HG.out.below (Nat.le_refl _) hB.out)).mono ?_; rintro e w4 ⟨rfl, hB4⟩)
        go_ret
        exact ⟨rfl, hB.out.trans (hB4.mono hszr)⟩
      · have HA2 : Hid (∀ y ∈ l.take (m + 1), y.1.txt.size ≤ 5000) := by
          refine Lib.hid ?_
          rw [HTk.out]
          intro y hy
          rw [List.mem_append] at hy
          rcases hy with hy | hy
          · exact hA.out y hy
          · rw [List.mem_singleton] at hy; rw [hy]; omega
        obtain ⟨x, ax⟩ := x
        obtain ⟨g, off, rfl, hW⟩ := HD.out m _ HXm.out
        have hW := hW.below hB.out hW.lt
        have bg := hW.lt
        obtain ⟨c0, c1, c2, c3, c4, c5, c6, c7⟩ := hW
        dsimp only at c0 c1 c2 c3 c4 c5 c6 c7 hbig
        have n4 : ¬ (5000 : Int) < (x.txt.size : Int) := by omega
        clear HTk hA
        go_wp2
        go_roundw
        case rel => exact ⟨m + 1, by go_num, by omega, HA2, hB⟩
        case measure => simp [intOf]; omega
    · exfalso
      obtain rfl : m = n := by omega
      obtain ⟨x, hx, hbig⟩ := HX.out
      have := hA.out x (by rw [List.take_of_length_le (by rw [HN.out]; exact Nat.le_refl _)]; exact hx)
      omega
end Go.Proofs.YtdodkbpagbblmaaGreatDoor
end
