import Derived.OrdersHeld
import Derived.Deep.RegionHeld3
import Derived.IntWalk
import Derived.Test.YtiihdbchchnncaaM1
import Derived.Test.YtiihdbchchnncaaM2
section
namespace Go.Vals
open Go

/-- The values laid into an act's slots, one behind another. -/
def putL : Array Value → List (Option Tmp) → List Value → Array Value
  | s, some d :: ds, v :: vs => putL (s.setIfInBounds d v) ds vs
  | s, none :: ds, _ :: vs => putL s ds vs
  | s, _, _ => s

theorem putL_size : ∀ (ds : List (Option Tmp)) (vs : List Value) (s : Array Value), (putL s ds vs).size = s.size
  | [], _, _ => rfl
  | _ :: _, [], s => by unfold putL; split <;> simp_all
  | some d :: ds, v :: vs, s => by simp only [putL]; rw [putL_size ds vs]; simp
  | none :: ds, v :: vs, s => by simp only [putL]; rw [putL_size ds vs]

theorem putL_off {t : Tmp} : ∀ (ds : List (Option Tmp)) (vs : List Value) (s : Array Value), some t ∉ ds → (putL s ds vs)[t]? = s[t]?
  | [], _, _, _ => rfl
  | _ :: _, [], s, _ => by unfold putL; split <;> simp_all
  | some d :: ds, v :: vs, s, h => by
    simp only [putL]
    rw [putL_off ds vs _ (fun hm => h (List.mem_cons_of_mem _ hm)), Array.getElem?_setIfInBounds_ne (fun e => h (by subst e; simp))]
  | none :: ds, v :: vs, s, h => by
    simp only [putL]
    exact putL_off ds vs _ (fun hm => h (List.mem_cons_of_mem _ hm))

/-- What a region's slots hold: the loose ones meet p, the others are F's. -/
def Kn (F : Array Value) (loose : List Tmp) (p : Tmp → Value → World → Prop) (t : Tmp) (v : Value) (w : World) : Prop :=
  (t ∈ loose ∧ p t v w) ∨ (t ∉ loose ∧ F[t]? = some v)

def Knows (K : Tmp → Value → World → Prop) (l : List Tmp) (a : Act) (w : World) : Prop := ∀ t ∈ l, ∃ v, a.tmps[t]? = some v ∧ K t v w
def Puts (K : Tmp → Value → World → Prop) (o : Oper) (v : Value) (w : World) : Prop := ∀ d, o.dst = some d → K d v w

/-- What becomes of an operation: it gives a value of its kind, the worlds being related. -/
def Gives (P : Program) (N : World → World → Prop) (K : Tmp → Value → World → Prop) (o : Oper) (w : World) : Result Next → Prop
  | .ok (.value u) w' => N w w' ∧ Puts K o u w'
  | .ok (.enter f args) w' => Calls P f args w' fun e w'' => ∃ u, e = .returned u ∧ N w w'' ∧ Puts K o u w''
  | _ => False

def Does (P : Program) (ops : Array Oper) (N : World → World → Prop) (K : Tmp → Value → World → Prop) (o : Oper) (a : Act) (w : World) : Prop :=
  (Region.wanted o (yielded ops a.tmps) = false ∧ Puts K o undef w) ∨
  (Region.wanted o (yielded ops a.tmps) = true ∧ Gives P N K o w ((execOp a.eval o).run P w))

section
variable {P : Program} {ops : Array Oper} {Q : Exit → Act → World → Prop} {md : Region.Mode} {N : World → World → Prop} {K : Tmp → Value → World → Prop}

theorem Does.wpOp {i : Nat} {o : Oper} {a : Act} {w : World} (hi : ops[i]? = some o) (hr : N w w) (h : Does P ops N K o a w)
    {R : Act → World → Prop} (hR : ∀ u w', N w w' → Puts K o u w' → R (a.put o.dst u) w') : wpOp P ops Q i R a w := by
  unfold Go.wpOp
  simp only [hi]
  rcases h with ⟨hw, hp⟩ | ⟨hw, hg⟩
  · simp only [hw, Bool.false_eq_true, if_false]; exact hR _ _ hr hp
  · simp only [hw, if_true]
    refine .inl ?_
    unfold Oper.wp
    generalize (execOp a.eval o).run P w = r at hg
    unfold Gives at hg
    split at hg
    · exact hR _ _ hg.1 hg.2
    · refine Calls.mono hg fun e w'' he => ?_
      obtain ⟨u, rfl, h1, h2⟩ := he
      exact hR _ _ h1 h2
    · exact hg.elim

/-- The region's own conditions: every edge goes back; every slot is written once; what is looked at is waited for. -/
def ck (md : Region.Mode) (ops : Array Oper) (loose : List Tmp) : Bool :=
  Region.noSelect ops && (List.range ops.size).all fun j => match ops[j]? with
    | none => true
    | some o =>
      (o.after.all fun e => decide (e.on < j)) &&
      (List.range ops.size).all fun i => match ops[i]? with
        | none => true
        | some x => match x.dst with
          | none => true
          | some d => (i == j || o.dst != some d) && (!((o.looksAt ops).contains d) || o.after.any fun e => Region.binds md e && e.on == i)

theorem ck_spec {loose : List Tmp} (h : ck md ops loose = true) :
    (∀ (j : Nat) (o : Oper) cs b, ops[j]? = some o → o.op ≠ .select cs b) ∧
    (∀ (j : Nat) (o : Oper), ops[j]? = some o → ∀ e ∈ o.after, e.on < j) ∧
    (∀ (j : Nat) (o : Oper) (i : Nat) (x : Oper) (d : Tmp), ops[j]? = some o → ops[i]? = some x → x.dst = some d → i ≠ j → o.dst ≠ some d) ∧
    (∀ (j : Nat) (o : Oper) (i : Nat) (x : Oper) (d : Tmp), ops[j]? = some o → ops[i]? = some x → x.dst = some d → d ∈ o.looksAt ops → ∃ e ∈ o.after, Region.binds md e = true ∧ e.on = i) := by
  unfold ck at h
  rw [Bool.and_eq_true] at h
  obtain ⟨hs, h⟩ := h
  rw [List.all_eq_true] at h
  have hj : ∀ (j : Nat) (o : Oper), ops[j]? = some o → (∀ e ∈ o.after, e.on < j) ∧ ∀ (i : Nat) (x : Oper) (d : Tmp), ops[i]? = some x → x.dst = some d → (i ≠ j → o.dst ≠ some d) ∧ (d ∈ o.looksAt ops → ∃ e ∈ o.after, Region.binds md e = true ∧ e.on = i) := by
    intro j o ho
    have hlt : j < ops.size := (Array.getElem?_eq_some_iff.1 ho).1
    have := h j (by simpa using hlt)
    simp only [ho, Bool.and_eq_true] at this
    obtain ⟨h1, h2⟩ := this
    refine ⟨fun e he => by simpa using (Array.all_eq_true_iff_forall_mem.1 h1) e he, fun i x d hi hx => ?_⟩
    have hlt' : i < ops.size := (Array.getElem?_eq_some_iff.1 hi).1
    rw [List.all_eq_true] at h2
    have := h2 i (by simpa using hlt')
    simp only [hi, hx, Bool.and_eq_true, Bool.or_eq_true] at this
    obtain ⟨h3, h4⟩ := this
    refine ⟨fun hne => ?_, fun hm => ?_⟩
    · rcases h3 with h3 | h3
      · exact absurd (by simpa using h3) hne
      · simpa using h3
    · rcases h4 with h4 | h4
      · simp [hm] at h4
      · rw [Array.any_eq_true'] at h4
        obtain ⟨e, he, h5⟩ := h4
        rw [Bool.and_eq_true] at h5
        exact ⟨e, he, h5.1, by simpa using h5.2⟩
  exact ⟨Region.noSelect_spec hs, fun j o ho => (hj j o ho).1, fun j o i x d ho hi hx => ((hj j o ho).2 i x d hi hx).1, fun j o i x d ho hi hx => ((hj j o ho).2 i x d hi hx).2⟩

/-- No operation that has not come up writes t. -/
def Settled (ops : Array Oper) (listed : Array Bool) (t : Tmp) : Prop := ∀ (j : Nat) (o : Oper), ops[j]? = some o → o.dst = some t → listed.getD j true = true

def left (ops : Array Oper) (listed : Array Bool) : Nat := (List.range ops.size).countP fun j => !listed.getD j true

theorem countP_lt {α : Type} {p q : α → Bool} : ∀ {l : List α} {x : α}, (∀ y ∈ l, q y = true → p y = true) → x ∈ l → p x = true → q x = false → l.countP q < l.countP p
  | [], _, _, hx, _, _ => by cases hx
  | y :: l, x, h, hx, hp, hq => by
    have hle : l.countP q ≤ l.countP p := List.countP_mono_left fun z hz => h z (List.mem_cons_of_mem _ hz)
    rcases List.mem_cons.1 hx with rfl | hx
    · rw [List.countP_cons_of_pos hp, List.countP_cons_of_neg (by simp [hq])]; omega
    · have ih := countP_lt (fun z hz => h z (List.mem_cons_of_mem _ hz)) hx hp hq
      have h0 := h y List.mem_cons_self
      rw [List.countP_cons, List.countP_cons]
      cases hqy : q y
      · simp; omega
      · simp [h0 hqy]; exact ih

theorem listed_all {listed : Array Bool} (hlt : ∀ (j : Nat) (o : Oper), ops[j]? = some o → ∀ e ∈ o.after, e.on < j) (hsz : listed.size = ops.size)
    (hr : Region.ready md ops listed = []) : ∀ (j : Nat) (o : Oper), ops[j]? = some o → listed.getD j true = true := by
  intro j
  induction j using Nat.strongRecOn with
  | _ j ih =>
    intro o ho
    cases hl : listed.getD j true with
    | true => rfl
    | false =>
      have : j ∈ Region.ready md ops listed := by
        rw [mem_ready]
        refine ⟨hl, o, ho, fun e he _ => ?_⟩
        have h1 := hlt j o ho e he
        have hj : j < ops.size := (Array.getElem?_eq_some_iff.1 ho).1
        have hs : e.on < ops.size := by omega
        have := ih e.on h1 ops[e.on] (by simp [hs])
        have hs' : e.on < listed.size := by omega
        simpa [hs'] using this
      rw [hr] at this
      cases this

theorem wpAny_vals {S : World → Prop} (hsel : ∀ (j : Nat) (o : Oper) cs b, ops[j]? = some o → o.op ≠ .select cs b)
    (hlt : ∀ (j : Nat) (o : Oper), ops[j]? = some o → ∀ e ∈ o.after, e.on < j)
    (hone : ∀ (j : Nat) (o : Oper) (i : Nat) (x : Oper) (d : Tmp), ops[j]? = some o → ops[i]? = some x → x.dst = some d → i ≠ j → o.dst ≠ some d)
    (hlook : ∀ (j : Nat) (o : Oper) (i : Nat) (x : Oper) (d : Tmp), ops[j]? = some o → ops[i]? = some x → x.dst = some d → d ∈ o.looksAt ops → ∃ e ∈ o.after, Region.binds md e = true ∧ e.on = i)
    (n : Nat) (ds : List Deferred) (hin : ∀ (j : Nat) (o : Oper), ops[j]? = some o → (∀ d, o.dst = some d → d < n) ∧ ∀ t ∈ o.looksAt ops, t < n)
    (hN : ∀ w, N w w) (hSN : ∀ w w', S w → N w w' → S w') (hKN : ∀ t v w w', K t v w → N w w' → K t v w')
    (hall : ∀ (j : Nat) (o : Oper), ops[j]? = some o → ∀ a w, a.defers = ds → S w → Knows K (o.looksAt ops) a w → Does P ops N K o a w)
    (hQ : ∀ a w, a.tmps.size = n → a.defers = ds → S w → (∀ t < n, ∃ v, a.tmps[t]? = some v ∧ K t v w) → Q .normal a w) :
    ∀ (fuel : Nat) (listed : Array Bool) (a : Act) (w : World), listed.size = ops.size → left ops listed ≤ fuel → a.tmps.size = n → a.defers = ds → S w →
      (∀ t < n, Settled ops listed t → ∃ v, a.tmps[t]? = some v ∧ K t v w) → wpAny P md ops Q fuel listed a w := by
  intro fuel
  have fin : ∀ (listed : Array Bool) (a : Act) (w : World), listed.size = ops.size → a.tmps.size = n → a.defers = ds → S w →
      (∀ t < n, Settled ops listed t → ∃ v, a.tmps[t]? = some v ∧ K t v w) → Region.ready md ops listed = [] → Q .normal a w := by
    intro listed a w hsz hn hd hS hk hr
    have hl := listed_all hlt hsz hr
    exact hQ a w hn hd hS fun t ht => hk t ht fun j o ho _ => hl j o ho
  induction fuel with
  | zero =>
    intro listed a w hsz hleft hn hd hS hk
    have hr : Region.ready md ops listed = [] := by
      rw [List.eq_nil_iff_forall_not_mem]
      intro j hj
      obtain ⟨h0, o, ho, _⟩ := mem_ready.1 hj
      have hlt' : j < ops.size := (Array.getElem?_eq_some_iff.1 ho).1
      have : 0 < left ops listed := List.countP_pos_iff.2 ⟨j, by simpa using hlt', by simp [h0]⟩
      omega
    exact ⟨hr, fin listed a w hsz hn hd hS hk hr⟩
  | succ fuel ih =>
    intro listed a w hsz hleft hn hd hS hk
    refine ⟨fun hr => fin listed a w hsz hn hd hS hk hr, fun i hi => ?_⟩
    obtain ⟨h0, o, ho, hdep⟩ := mem_ready.1 hi
    have hilt : i < ops.size := (Array.getElem?_eq_some_iff.1 ho).1
    have hknow : Knows K (o.looksAt ops) a w := by
      intro t ht
      refine hk t ((hin i o ho).2 t ht) fun j x hx hxd => ?_
      obtain ⟨e, he, hb, rfl⟩ := hlook i o j x t ho hx hxd ht
      have h1 := hdep e he hb
      have hj : e.on < ops.size := (Array.getElem?_eq_some_iff.1 hx).1
      have hj' : e.on < listed.size := by omega
      simpa [hj'] using h1
    refine (hall i o ho a w hd hS hknow).wpOp ho (hN w) fun u w' hw' hp => ?_
    refine ih _ _ _ (by simpa using hsz) ?_ ?_ ?_ (hSN _ _ hS hw') ?_
    · have : left ops (listed.setIfInBounds i true) < left ops listed := by
        refine countP_lt (x := i) (fun j _ hj => ?_) (by simpa using hilt) (by simp [h0]) (by simp [hsz, hilt])
        by_cases hij : i = j
        · subst hij; simp [hsz, hilt] at hj
        · rw [getD_set_ne true hij] at hj; exact hj
      omega
    · unfold Act.put; split <;> simp [hn]
    · unfold Act.put; split <;> exact hd
    · intro t ht hset
      by_cases hdt : o.dst = some t
      · refine ⟨u, ?_, hp t hdt⟩
        have : t < a.tmps.size := by omega
        simp [Act.put, hdt, this]
      · have hset' : Settled ops listed t := by
          intro j x hx hxd
          by_cases hij : i = j
          · subst hij; rw [ho] at hx; cases hx; exact absurd hxd hdt
          · rw [← getD_set_ne true hij]; exact hset j x hx hxd
        obtain ⟨v, hv, hK⟩ := hk t ht hset'
        refine ⟨v, ?_, hKN _ _ _ _ hK hw'⟩
        cases hod : o.dst with
        | none => simpa [Act.put] using hv
        | some d =>
          have : d ≠ t := fun e => hdt (by rw [hod, e])
          simp only [Act.put]
          rw [Array.getElem?_setIfInBounds_ne this]; exact hv

/-- Slots below n. -/
def below (ops : Array Oper) (n : Nat) : Bool :=
  (List.range ops.size).all fun j => match ops[j]? with
    | none => true
    | some o => (match o.dst with | some d => decide (d < n) | none => true) && (o.looksAt ops).all fun t => decide (t < n)

theorem below_spec {n : Nat} (h : below ops n = true) : ∀ (j : Nat) (o : Oper), ops[j]? = some o → (∀ d, o.dst = some d → d < n) ∧ ∀ t ∈ o.looksAt ops, t < n := by
  intro j o ho
  unfold below at h
  rw [List.all_eq_true] at h
  have hlt : j < ops.size := (Array.getElem?_eq_some_iff.1 ho).1
  have := h j (by simpa using hlt)
  simp only [ho, Bool.and_eq_true] at this
  refine ⟨fun d hd => ?_, fun t ht => ?_⟩
  · have h1 := this.1
    simp only [hd] at h1
    simpa using h1
  · simpa using (List.all_eq_true.1 this.2) t ht

/-- The obligations, one for each operation. -/
def Each (P : Program) (ops : Array Oper) (N : World → World → Prop) (K : Tmp → Value → World → Prop) (S : World → Prop) (ds : List Deferred) : List Oper → Prop
  | [] => True
  | o :: l => (∀ a w, a.defers = ds → S w → Knows K (o.looksAt ops) a w → Does P ops N K o a w) ∧ Each P ops N K S ds l

theorem Each.get {S : World → Prop} {ds : List Deferred} : ∀ {l : List Oper}, Each P ops N K S ds l → ∀ (j : Nat) (o : Oper), l[j]? = some o → ∀ a w, a.defers = ds → S w → Knows K (o.looksAt ops) a w → Does P ops N K o a w
  | [], _, j, o, h => by simp at h
  | x :: l, hE, 0, o, h => by simp at h; subst h; exact hE.1
  | x :: l, hE, j + 1, o, h => by simp at h; exact hE.2.get j o h

theorem left_start : left ops (Array.replicate ops.size false) ≤ ops.size := by
  unfold left
  exact Nat.le_trans List.countP_le_length (by simp)

/-- **A region that draws its order, by the values that its slots hold behind it.** F: every slot's value (the loose ones' are of no account); vs: the operations' values in their text's order. -/
theorem wp_region_vals {id : Nat} {a : Act} {w : World} {S : World → Prop} (loose : List Tmp) (p : Tmp → Value → World → Prop) (vs : List Value) (F : Array Value)
    (hm : P.follows .mixedOrders = true) (hck : ck .any ops loose = true) (hb : below ops a.tmps.size = true)
    (hF : putL a.tmps (ops.toList.map (·.dst)) vs = F)
    (hl : (loose.all fun t => ops.toList.any fun o => o.dst == some t) = true)
    (hN : ∀ w, N w w) (hS : S w.drew) (hSN : ∀ w w', S w → N w w' → S w')
    (hpN : ∀ t ∈ loose, ∀ v w w', p t v w → N w w' → p t v w')
    (hall : Each P ops N (Kn F loose p) S a.defers ops.toList)
    (hQ : ∀ T w', T.size = F.size → S w' → (∀ t < F.size, ∃ v, T[t]? = some v ∧ Kn F loose p t v w') → Q .normal { a with tmps := T } w') : (Code.region id ops true).wp P Q a w := by
  obtain ⟨h1, h2, h3, h4⟩ := ck_spec hck
  have hFs : F.size = a.tmps.size := by rw [← hF, putL_size]
  refine wp_region_any hm (wpAny_vals (K := Kn F loose p) (N := N) (S := S) h1 h2 h3 h4 a.tmps.size a.defers (below_spec hb) hN hSN ?_ ?_ ?_ ops.size _ a _ (by simp) left_start rfl rfl hS ?_)
  · rintro t v w w' (⟨hm, hp⟩ | ⟨hm, hp⟩) hw
    · exact .inl ⟨hm, hpN t hm v w w' hp hw⟩
    · exact .inr ⟨hm, hp⟩
  · intro j o ho a' w' hd hS' hK
    exact hall.get j o (by simpa using ho) a' w' hd hS' hK
  · intro a' w' hn hd hS' hk
    have := hQ a'.tmps w' (by rw [hn, hFs]) hS' (by rw [hFs]; exact hk)
    rw [← hd] at this
    exact this
  · intro t ht hset
    have hnd : some t ∉ ops.toList.map (·.dst) := by
      intro hm
      obtain ⟨o, ho, hod⟩ := List.mem_map.1 hm
      obtain ⟨j, hj⟩ := List.mem_iff_getElem?.1 ho
      have hj' : ops[j]? = some o := by simpa using hj
      have h5 := hset j o hj' hod
      have hlt : j < ops.size := (Array.getElem?_eq_some_iff.1 hj').1
      simp [hlt] at h5
    refine ⟨a.tmps[t], by simp [ht], .inr ⟨fun hm => ?_, ?_⟩⟩
    · rw [List.all_eq_true] at hl
      have := hl t hm
      rw [List.any_eq_true] at this
      obtain ⟨o, ho, hod⟩ := this
      exact hnd (List.mem_map.2 ⟨o, ho, by simpa using hod⟩)
    · rw [← hF, putL_off _ _ _ hnd]; simp [ht]

/-- None loose: the act behind the region is known whole. -/
theorem wp_region_vals0 {id : Nat} {a : Act} {w : World} {S : World → Prop} (vs : List Value) (F : Array Value)
    (hm : P.follows .mixedOrders = true) (hck : ck .any ops [] = true) (hb : below ops a.tmps.size = true)
    (hF : putL a.tmps (ops.toList.map (·.dst)) vs = F)
    (hN : ∀ w, N w w) (hS : S w.drew) (hSN : ∀ w w', S w → N w w' → S w')
    (hall : Each P ops N (Kn F [] fun _ _ _ => False) S a.defers ops.toList)
    (hQ : ∀ w', S w' → Q .normal { a with tmps := F } w') : (Code.region id ops true).wp P Q a w := by
  refine wp_region_vals [] (fun _ _ _ => False) vs F hm hck hb hF rfl hN hS hSN (by simp) hall fun T w' hT hS' hk => ?_
  have : T = F := by
    apply Array.ext hT
    intro i h1 h2
    obtain ⟨v, hv, hK⟩ := hk i h2
    rcases hK with ⟨h, _⟩ | ⟨_, hK⟩
    · cases h
    · rw [← hK] at hv; simpa [h1, h2] using hv
  subst this
  exact hQ w' hS'

/-! ### The obligations' moves -/

/-- The operation looks at no loose slot: it is as at F. -/
theorem does_at {F : Array Value} {loose : List Tmp} {p : Tmp → Value → World → Prop} {o : Oper} {a : Act} {w : World} (hs : ∀ cs b, o.op ≠ .select cs b)
    (hl : (o.looksAt ops).all (fun t => !loose.contains t) = true) (hk : Knows (Kn F loose p) (o.looksAt ops) a w)
    (h : Does P ops N (Kn F loose p) o { a with tmps := F } w) : Does P ops N (Kn F loose p) o a w := by
  have hsame : ∀ t ∈ o.looksAt ops, a.tmps[t]? = F[t]? := by
    intro t ht
    obtain ⟨v, hv, hK⟩ := hk t ht
    have h1 := (List.all_eq_true.1 hl) t ht
    rcases hK with ⟨hm, _⟩ | ⟨_, hK⟩
    · simp [hm] at h1
    · rw [hv, hK]
  have he : execOp a.eval o = execOp ({ a with tmps := F } : Act).eval o := by
    refine execOp_congr o hs fun x hx => ?_
    cases x with
    | tmp t =>
      have ht : t ∈ o.looksAt ops := List.mem_append_left _ (List.mem_filterMap.2 ⟨.tmp t, by simpa using hx, rfl⟩)
      have := hsame t ht
      simp [Act.eval, this]
    | _ => rfl
  have hw : Region.wanted o (yielded ops a.tmps) = Region.wanted o (yielded ops F) := by
    unfold Region.wanted
    cases hg : o.guard with
    | none => rfl
    | some gw =>
      obtain ⟨g, want⟩ := gw
      have hy : yielded ops a.tmps g = yielded ops F g := by
        unfold yielded
        cases ht : (ops[g]?).bind (·.dst) with
        | none => rfl
        | some t =>
          have := hsame t (by simp [Oper.looksAt, hg, ht])
          simp [this]
      simp only [hy]
  unfold Does at *
  rw [he, hw]
  exact h

theorem puts_at {F : Array Value} {loose : List Tmp} {p : Tmp → Value → World → Prop} {o : Oper} {w : World} {d : Tmp} {v : Value} (hd : o.dst = some d) (hn : loose.contains d = false) (hv : F[d]? = some v) : Puts (Kn F loose p) o v w := by
  intro d' hd'
  rw [hd] at hd'
  cases hd'
  exact .inr ⟨by simpa using hn, hv⟩

def noSel (o : Oper) : Bool := match o.op with | .select .. => false | _ => true
theorem noSel_spec {o : Oper} (h : noSel o = true) : ∀ cs b, o.op ≠ .select cs b := by
  intro cs b e
  simp [noSel, e] at h

section
variable {F : Array Value} {loose : List Tmp} {p : Tmp → Value → World → Prop} {S : World → Prop} {o : Oper} {ds : List Deferred} {l : List Oper} {d : Tmp} {v : Value}

/-- The operation's own conditions, as one Bool: no select; it looks at no loose slot and writes none. -/
def own (ops : Array Oper) (loose : List Tmp) (o : Oper) (d : Tmp) : Bool := noSel o && (o.looksAt ops).all (fun t => !loose.contains t) && (o.dst == some d) && !loose.contains d
theorem own_spec (h : own ops loose o d = true) : (∀ cs b, o.op ≠ .select cs b) ∧ (o.looksAt ops).all (fun t => !loose.contains t) = true ∧ o.dst = some d ∧ loose.contains d = false := by
  unfold own at h
  simp only [Bool.and_eq_true] at h
  exact ⟨noSel_spec h.1.1.1, h.1.1.2, by simpa using h.1.2, by simpa using h.2⟩

/-- It gives v and leaves the world. -/
theorem Each.val (d : Tmp) (v : Value) (ho : own ops loose o d = true) (hw : Region.wanted o (yielded ops F) = true) (hv : F[d]? = some v) (hN : ∀ w, N w w)
    (he : ∀ w, S w → ∀ ds, (execOp (Act.eval ⟨F, ds⟩) o).run P w = .ok (.value v) w) (hr : Each P ops N (Kn F loose p) S ds l) : Each P ops N (Kn F loose p) S ds (o :: l) :=
  have h := own_spec ho
  ⟨fun a w _ hS hk => does_at h.1 h.2.1 hk (.inr ⟨hw, by
    have := he w hS a.defers
    show Gives P N _ o w ((execOp (Act.eval ⟨F, a.defers⟩) o).run P w)
    rw [this]; exact ⟨hN w, puts_at h.2.2.1 h.2.2.2 hv⟩⟩), hr⟩
/-- It is not wanted. -/
theorem Each.off (d : Tmp) (ho : own ops loose o d = true) (hw : Region.wanted o (yielded ops F) = false) (hv : F[d]? = some undef)
    (hr : Each P ops N (Kn F loose p) S ds l) : Each P ops N (Kn F loose p) S ds (o :: l) :=
  have h := own_spec ho
  ⟨fun a w _ hS hk => does_at h.1 h.2.1 hk (.inl ⟨hw, puts_at h.2.2.1 h.2.2.2 hv⟩), hr⟩
/-- It calls. -/
theorem Each.call (d : Tmp) (v : Value) (f : FuncId) (args : Array Value) (ho : own ops loose o d = true) (hw : Region.wanted o (yielded ops F) = true) (hv : F[d]? = some v)
    (he : ∀ w, ∀ ds, (execOp (Act.eval ⟨F, ds⟩) o).run P w = .ok (.enter f args) w) (hc : ∀ w, S w → Calls P f args w fun e w' => e = .returned v ∧ N w w')
    (hr : Each P ops N (Kn F loose p) S ds l) : Each P ops N (Kn F loose p) S ds (o :: l) :=
  have h := own_spec ho
  ⟨fun a w _ hS hk => does_at h.1 h.2.1 hk (.inr ⟨hw, by
    have := he w a.defers
    show Gives P N _ o w ((execOp (Act.eval ⟨F, a.defers⟩) o).run P w)
    rw [this]; exact (hc w hS).mono fun e w' hh => ⟨v, hh.1, hh.2, puts_at h.2.2.1 h.2.2.2 hv⟩⟩), hr⟩
/-- It makes something new, in a loose slot. -/
theorem Each.makes (d : Tmp) (hs : noSel o = true) (hl : (o.looksAt ops).all (fun t => !loose.contains t) = true) (hd : o.dst = some d) (hm : loose.contains d = true) (hw : Region.wanted o (yielded ops F) = true)
    (he : ∀ w, S w → ∀ ds, ∃ v w', (execOp (Act.eval ⟨F, ds⟩) o).run P w = .ok (.value v) w' ∧ N w w' ∧ p d v w') (hr : Each P ops N (Kn F loose p) S ds l) : Each P ops N (Kn F loose p) S ds (o :: l) :=
  ⟨fun a w _ hS hk => does_at (noSel_spec hs) hl hk (.inr ⟨hw, by
    obtain ⟨v, w', this, h1, h2⟩ := he w hS a.defers
    show Gives P N _ o w ((execOp (Act.eval ⟨F, a.defers⟩) o).run P w)
    rw [this]; exact ⟨h1, fun d' hd' => by rw [hd] at hd'; cases hd'; exact .inl ⟨by simpa using hm, h2⟩⟩⟩), hr⟩
/-- The guard's slot is among l. -/
def guardIn (ops : Array Oper) (o : Oper) (l : List Tmp) : Bool := match o.guard with
  | some (g, _) => match (ops[g]?).bind (·.dst) with | some d => l.contains d | none => true
  | none => true
theorem wanted_same {l : List Tmp} {T : Array Value} (h : guardIn ops o l = true) (hT : ∀ t ∈ l, T[t]? = F[t]?) : Region.wanted o (yielded ops T) = Region.wanted o (yielded ops F) := by
  unfold Region.wanted guardIn at *
  cases hg : o.guard with
  | none => rfl
  | some gw =>
    obtain ⟨g, want⟩ := gw
    have hy : yielded ops T g = yielded ops F g := by
      unfold yielded
      cases ht : (ops[g]?).bind (·.dst) with
      | none => rfl
      | some t =>
        simp only [hg, ht] at h
        have := hT t (by simpa using h)
        simp [this]
    simp only [hy]
/-- A call whose argument is a loose slot. -/
theorem Each.callLoose (d t : Tmp) (v : Value) (f : FuncId) (hd : o.dst = some d) (hm : loose.contains d = false) (hl : o.looksAt ops = t :: (o.looksAt ops).tail) (hlo : loose.contains t = true)
    (hw : Region.wanted o (yielded ops F) = true) (hg : guardIn ops o (o.looksAt ops).tail = true) (hgl : (o.looksAt ops).tail.all (fun t => !loose.contains t) = true) (hv : F[d]? = some v)
    (he : ∀ w a, (execOp (Act.eval a) o).run P w = .ok (.enter f #[a.eval (.tmp t)]) w) (hc : ∀ w x, S w → p t x w → Calls P f #[x] w fun e w' => e = .returned v ∧ N w w')
    (hr : Each P ops N (Kn F loose p) S ds l) : Each P ops N (Kn F loose p) S ds (o :: l) := by
  refine ⟨fun a w _ hS hk => .inr ⟨(wanted_same hg fun t ht => ?_).trans hw, ?_⟩, hr⟩
  · obtain ⟨x, hx, hK⟩ := hk t (by rw [hl]; exact List.mem_cons_of_mem _ ht)
    have h1 := (List.all_eq_true.1 hgl) t ht
    rcases hK with ⟨hm, _⟩ | ⟨_, hK⟩
    · simp [hm] at h1
    · rw [hx, hK]
  · obtain ⟨x, hx, hK⟩ := hk t (by rw [hl]; exact List.mem_cons_self)
    have hp : p t x w := by
      rcases hK with ⟨_, h⟩ | ⟨h, _⟩
      · exact h
      · exact absurd (by simpa using hlo) h
    rw [he, show a.eval (.tmp t) = x by simp [Act.eval, hx]]
    exact (hc w x hS hp).mono fun e w' hh => ⟨v, hh.1, hh.2, puts_at hd hm hv⟩
end
end
end Go.Vals
end
section
namespace Go.Proofs.Ytiihdbchchnncaa
open Go Go.RowKit

section
variable {w : World} {o : Oper} {ρ : Operand → Value}

theorem ld3 {x : Operand} {p : Addr} {v : Value} (ho : o.op = .load 3 x) (hx : ρ x = .pointer (some p)) (hc : w.cell? p = some v) : (execOp ρ o).run Try.prog w = .ok (.value v) w := by
  unfold execOp; rw [ho]; simp only [hx]
  go_simp

theorem ld4 {x : Operand} {p : Addr} {v : Value} (ho : o.op = .load 4 x) (hx : ρ x = .pointer (some p)) (hc : w.cell? p = some v) : (execOp ρ o).run Try.prog w = .ok (.value v) w := by
  unfold execOp; rw [ho]; simp only [hx]
  go_simp

theorem ld5 {x : Operand} {p : Addr} {v : Value} (ho : o.op = .load 5 x) (hx : ρ x = .pointer (some p)) (hc : w.cell? p = some v) : (execOp ρ o).run Try.prog w = .ok (.value v) w := by
  unfold execOp; rw [ho]; simp only [hx]
  go_simp

theorem ld9 {x : Operand} {p : Addr} {v : Value} (ho : o.op = .load 9 x) (hx : ρ x = .pointer (some p)) (hc : w.cell? p = some v) : (execOp ρ o).run Try.prog w = .ok (.value v) w := by
  unfold execOp; rw [ho]; simp only [hx]
  go_simp

theorem ld22 {x : Operand} {p : Addr} {v : Value} (ho : o.op = .load 22 x) (hx : ρ x = .pointer (some p)) (hc : w.cell? p = some v) : (execOp ρ o).run Try.prog w = .ok (.value v) w := by
  unfold execOp; rw [ho]; simp only [hx]
  go_simp

theorem ld23 {x : Operand} {p : Addr} {v : Value} (ho : o.op = .load 23 x) (hx : ρ x = .pointer (some p)) (hc : w.cell? p = some v) : (execOp ρ o).run Try.prog w = .ok (.value v) w := by
  unfold execOp; rw [ho]; simp only [hx]
  go_simp

theorem ld24 {x : Operand} {p : Addr} {v : Value} (ho : o.op = .load 24 x) (hx : ρ x = .pointer (some p)) (hc : w.cell? p = some v) : (execOp ρ o).run Try.prog w = .ok (.value v) w := by
  unfold execOp; rw [ho]; simp only [hx]
  go_simp

theorem ld25 {x : Operand} {p : Addr} {v : Value} (ho : o.op = .load 25 x) (hx : ρ x = .pointer (some p)) (hc : w.cell? p = some v) : (execOp ρ o).run Try.prog w = .ok (.value v) w := by
  unfold execOp; rw [ho]; simp only [hx]
  go_simp

theorem ld32 {x : Operand} {p : Addr} {v : Value} (ho : o.op = .load 32 x) (hx : ρ x = .pointer (some p)) (hc : w.cell? p = some v) : (execOp ρ o).run Try.prog w = .ok (.value v) w := by
  unfold execOp; rw [ho]; simp only [hx]
  go_simp

theorem ld40 {x : Operand} {p : Addr} {v : Value} (ho : o.op = .load 40 x) (hx : ρ x = .pointer (some p)) (hc : w.cell? p = some v) : (execOp ρ o).run Try.prog w = .ok (.value v) w := by
  unfold execOp; rw [ho]; simp only [hx]
  go_simp

theorem ld43 {x : Operand} {p : Addr} {v : Value} (ho : o.op = .load 43 x) (hx : ρ x = .pointer (some p)) (hc : w.cell? p = some v) : (execOp ρ o).run Try.prog w = .ok (.value v) w := by
  unfold execOp; rw [ho]; simp only [hx]
  go_simp

theorem ld44 {x : Operand} {p : Addr} {v : Value} (ho : o.op = .load 44 x) (hx : ρ x = .pointer (some p)) (hc : w.cell? p = some v) : (execOp ρ o).run Try.prog w = .ok (.value v) w := by
  unfold execOp; rw [ho]; simp only [hx]
  go_simp

theorem ld49 {x : Operand} {p : Addr} {v : Value} (ho : o.op = .load 49 x) (hx : ρ x = .pointer (some p)) (hc : w.cell? p = some v) : (execOp ρ o).run Try.prog w = .ok (.value v) w := by
  unfold execOp; rw [ho]; simp only [hx]
  go_simp

theorem ld63 {x : Operand} {p : Addr} {v : Value} (ho : o.op = .load 63 x) (hx : ρ x = .pointer (some p)) (hc : w.cell? p = some v) : (execOp ρ o).run Try.prog w = .ok (.value v) w := by
  unfold execOp; rw [ho]; simp only [hx]
  go_simp

theorem ld64 {x : Operand} {p : Addr} {v : Value} (ho : o.op = .load 64 x) (hx : ρ x = .pointer (some p)) (hc : w.cell? p = some v) : (execOp ρ o).run Try.prog w = .ok (.value v) w := by
  unfold execOp; rw [ho]; simp only [hx]
  go_simp

theorem ld82 {x : Operand} {p : Addr} {v : Value} (ho : o.op = .load 82 x) (hx : ρ x = .pointer (some p)) (hc : w.cell? p = some v) : (execOp ρ o).run Try.prog w = .ok (.value v) w := by
  unfold execOp; rw [ho]; simp only [hx]
  go_simp

theorem ld89 {x : Operand} {p : Addr} {v : Value} (ho : o.op = .load 89 x) (hx : ρ x = .pointer (some p)) (hc : w.cell? p = some v) : (execOp ρ o).run Try.prog w = .ok (.value v) w := by
  unfold execOp; rw [ho]; simp only [hx]
  go_simp

theorem ld101 {x : Operand} {p : Addr} {v : Value} (ho : o.op = .load 101 x) (hx : ρ x = .pointer (some p)) (hc : w.cell? p = some v) : (execOp ρ o).run Try.prog w = .ok (.value v) w := by
  unfold execOp; rw [ho]; simp only [hx]
  go_simp

theorem ld105 {x : Operand} {p : Addr} {v : Value} (ho : o.op = .load 105 x) (hx : ρ x = .pointer (some p)) (hc : w.cell? p = some v) : (execOp ρ o).run Try.prog w = .ok (.value v) w := by
  unfold execOp; rw [ho]; simp only [hx]
  go_simp

theorem ld115 {x : Operand} {p : Addr} {v : Value} (ho : o.op = .load 115 x) (hx : ρ x = .pointer (some p)) (hc : w.cell? p = some v) : (execOp ρ o).run Try.prog w = .ok (.value v) w := by
  unfold execOp; rw [ho]; simp only [hx]
  go_simp

theorem ld68 {x : Operand} {b q : Nat} {v : SymM} (ho : o.op = .load 68 x) (hx : ρ x = .pointer (some ⟨b, q, none⟩)) (hc : CellsAt w b q (symC v)) : (execOp ρ o).run Try.prog w = .ok (.value (.agg (symC v))) w := by
  obtain ⟨c0, c1, c2, c3, c4, c5⟩ := Sym_at hc
  unfold symC
  unfold execOp; rw [ho]; simp only [hx]
  go_simp

theorem ld46 {x : Operand} {b q : Nat} {v : ProdM} (ho : o.op = .load 46 x) (hx : ρ x = .pointer (some ⟨b, q, none⟩)) (hc : CellsAt w b q (prodC v)) : (execOp ρ o).run Try.prog w = .ok (.value (.agg (prodC v))) w := by
  obtain ⟨c0, c1, c2, c3, c4, c5, c6⟩ := Prod_at hc
  unfold prodC
  unfold execOp; rw [ho]; simp only [hx]
  go_simp

theorem ld78 {x : Operand} {b q : Nat} {v : ForM} (ho : o.op = .load 78 x) (hx : ρ x = .pointer (some ⟨b, q, none⟩)) (hc : CellsAt w b q (forC v)) : (execOp ρ o).run Try.prog w = .ok (.value (.agg (forC v))) w := by
  obtain ⟨c0, c1, c2⟩ := For_at hc
  unfold forC
  unfold execOp; rw [ho]; simp only [hx]
  go_simp

theorem ld80 {x : Operand} {b q : Nat} {v : FolM} (ho : o.op = .load 80 x) (hx : ρ x = .pointer (some ⟨b, q, none⟩)) (hc : CellsAt w b q (folC v)) : (execOp ρ o).run Try.prog w = .ok (.value (.agg (folC v))) w := by
  obtain ⟨c0, c1, c2, c3, c4⟩ := Fol_at hc
  unfold folC
  unfold execOp; rw [ho]; simp only [hx]
  go_simp

theorem ld27 {x : Operand} {b q : Nat} {v : GramM} (ho : o.op = .load 27 x) (hx : ρ x = .pointer (some ⟨b, q, none⟩)) (hc : CellsAt w b q (gramC v)) : (execOp ρ o).run Try.prog w = .ok (.value (.agg (gramC v))) w := by
  obtain ⟨c0, c1, c2, c3, c4⟩ := Gram_at hc
  unfold gramC
  unfold execOp; rw [ho]; simp only [hx]
  go_simp

theorem ld51 {x : Operand} {b q : Nat} {p y : Int} {ka : Option Addr} {kc : Nat} {kids : List TreeM} (ho : o.op = .load 51 x) (hx : ρ x = .pointer (some ⟨b, q, none⟩)) (hc : CellsAt w b q (treeC (.node p y ka kc kids))) : (execOp ρ o).run Try.prog w = .ok (.value (.agg #[.int .i64 p, .int .u8 y, .slice ka kids.length kc])) w := by
  obtain ⟨c0, c1, c2⟩ := Tree_at hc
  unfold execOp; rw [ho]; simp only [hx]
  go_simp

theorem len22 {x : Operand} {a : Option Addr} {n c : Nat} (ho : o.op = .call { callee := .builtin .len, args := #[x], argTypes := #[22] }) (hx : ρ x = .slice a n c) : (execOp ρ o).run Try.prog w = .ok (.value (.int .i64 n)) w := by
  unfold execOp; rw [ho]; simp only [resolve, invoke, builtin, List.map_toArray, List.map_cons, List.map_nil, hx]; go_simp

theorem len23 {x : Operand} {a : Option Addr} {n c : Nat} (ho : o.op = .call { callee := .builtin .len, args := #[x], argTypes := #[23] }) (hx : ρ x = .slice a n c) : (execOp ρ o).run Try.prog w = .ok (.value (.int .i64 n)) w := by
  unfold execOp; rw [ho]; simp only [resolve, invoke, builtin, List.map_toArray, List.map_cons, List.map_nil, hx]; go_simp

theorem len24 {x : Operand} {a : Option Addr} {n c : Nat} (ho : o.op = .call { callee := .builtin .len, args := #[x], argTypes := #[24] }) (hx : ρ x = .slice a n c) : (execOp ρ o).run Try.prog w = .ok (.value (.int .i64 n)) w := by
  unfold execOp; rw [ho]; simp only [resolve, invoke, builtin, List.map_toArray, List.map_cons, List.map_nil, hx]; go_simp

theorem len25 {x : Operand} {a : Option Addr} {n c : Nat} (ho : o.op = .call { callee := .builtin .len, args := #[x], argTypes := #[25] }) (hx : ρ x = .slice a n c) : (execOp ρ o).run Try.prog w = .ok (.value (.int .i64 n)) w := by
  unfold execOp; rw [ho]; simp only [resolve, invoke, builtin, List.map_toArray, List.map_cons, List.map_nil, hx]; go_simp

theorem len40 {x : Operand} {a : Option Addr} {n c : Nat} (ho : o.op = .call { callee := .builtin .len, args := #[x], argTypes := #[40] }) (hx : ρ x = .slice a n c) : (execOp ρ o).run Try.prog w = .ok (.value (.int .i64 n)) w := by
  unfold execOp; rw [ho]; simp only [resolve, invoke, builtin, List.map_toArray, List.map_cons, List.map_nil, hx]; go_simp

theorem len43 {x : Operand} {a : Option Addr} {n c : Nat} (ho : o.op = .call { callee := .builtin .len, args := #[x], argTypes := #[43] }) (hx : ρ x = .slice a n c) : (execOp ρ o).run Try.prog w = .ok (.value (.int .i64 n)) w := by
  unfold execOp; rw [ho]; simp only [resolve, invoke, builtin, List.map_toArray, List.map_cons, List.map_nil, hx]; go_simp

theorem len49 {x : Operand} {a : Option Addr} {n c : Nat} (ho : o.op = .call { callee := .builtin .len, args := #[x], argTypes := #[49] }) (hx : ρ x = .slice a n c) : (execOp ρ o).run Try.prog w = .ok (.value (.int .i64 n)) w := by
  unfold execOp; rw [ho]; simp only [resolve, invoke, builtin, List.map_toArray, List.map_cons, List.map_nil, hx]; go_simp

theorem len82 {x : Operand} {a : Option Addr} {n c : Nat} (ho : o.op = .call { callee := .builtin .len, args := #[x], argTypes := #[82] }) (hx : ρ x = .slice a n c) : (execOp ρ o).run Try.prog w = .ok (.value (.int .i64 n)) w := by
  unfold execOp; rw [ho]; simp only [resolve, invoke, builtin, List.map_toArray, List.map_cons, List.map_nil, hx]; go_simp

theorem len87 {x : Operand} {a : Option Addr} {n c : Nat} (ho : o.op = .call { callee := .builtin .len, args := #[x], argTypes := #[87] }) (hx : ρ x = .slice a n c) : (execOp ρ o).run Try.prog w = .ok (.value (.int .i64 n)) w := by
  unfold execOp; rw [ho]; simp only [resolve, invoke, builtin, List.map_toArray, List.map_cons, List.map_nil, hx]; go_simp

theorem len9 {x : Operand} {s : ByteArray} (ho : o.op = .call { callee := .builtin .len, args := #[x], argTypes := #[9] }) (hx : ρ x = .string s) : (execOp ρ o).run Try.prog w = .ok (.value (.int .i64 s.size)) w := by
  unfold execOp; rw [ho]; simp only [resolve, invoke, builtin, List.map_toArray, List.map_cons, List.map_nil, hx]; go_simp
theorem len89 {x : Operand} {v : Value} {n : Int} (ho : o.op = .call { callee := .builtin .len, args := #[x], argTypes := #[89] }) (hx : ρ x = v) (hl : (Builtin.len_ #[89] o.type #[v]).run Try.prog w = .ok (.int .i64 n) w) : (execOp ρ o).run Try.prog w = .ok (.value (.int .i64 n)) w := by
  unfold execOp; rw [ho]; simp only [resolve, invoke, builtin, List.map_toArray, List.map_cons, List.map_nil, hx]; simp [hl, Result.andThen]

theorem ex_leq {x y : Operand} {a b : Int} {r : Bool} (ho : o.op = .binOp .leq 3 x y 3) (hx : ρ x = .int .i64 a) (hy : ρ y = .int .i64 b) (h : decide (a ≤ b) = r) : (execOp ρ o).run Try.prog w = .ok (.value (.bool r)) w := by
  unfold execOp; rw [ho]; simp only [hx, hy]
  subst h
  go_simp

theorem ex_lss {x y : Operand} {a b : Int} {r : Bool} (ho : o.op = .binOp .lss 3 x y 3) (hx : ρ x = .int .i64 a) (hy : ρ y = .int .i64 b) (h : decide (a < b) = r) : (execOp ρ o).run Try.prog w = .ok (.value (.bool r)) w := by
  unfold execOp; rw [ho]; simp only [hx, hy]
  subst h
  go_simp

theorem ex_gtr {x y : Operand} {a b : Int} {r : Bool} (ho : o.op = .binOp .gtr 3 x y 3) (hx : ρ x = .int .i64 a) (hy : ρ y = .int .i64 b) (h : decide (b < a) = r) : (execOp ρ o).run Try.prog w = .ok (.value (.bool r)) w := by
  unfold execOp; rw [ho]; simp only [hx, hy]
  subst h
  go_simp

theorem ex_geq {x y : Operand} {a b : Int} {r : Bool} (ho : o.op = .binOp .geq 3 x y 3) (hx : ρ x = .int .i64 a) (hy : ρ y = .int .i64 b) (h : decide (b ≤ a) = r) : (execOp ρ o).run Try.prog w = .ok (.value (.bool r)) w := by
  unfold execOp; rw [ho]; simp only [hx, hy]
  subst h
  go_simp

theorem ex_eql3 {x y : Operand} {a b : Int} {r : Bool} (ho : o.op = .binOp .eql 3 x y 3) (hx : ρ x = .int .i64 a) (hy : ρ y = .int .i64 b) (h : (a == b) = r) : (execOp ρ o).run Try.prog w = .ok (.value (.bool r)) w := by
  unfold execOp; rw [ho]; simp only [hx, hy]
  go_simp
theorem ex_neq3 {x y : Operand} {a b : Int} {r : Bool} (ho : o.op = .binOp .neq 3 x y 3) (hx : ρ x = .int .i64 a) (hy : ρ y = .int .i64 b) (h : (a == b) = !r) : (execOp ρ o).run Try.prog w = .ok (.value (.bool r)) w := by
  unfold execOp; rw [ho]; simp only [hx, hy]
  have h2 : (a != b) = r := by simp [bne, h]
  go_simp

theorem ex_eql32 {x y : Operand} {a b : Int} {r : Bool} (ho : o.op = .binOp .eql 32 x y 32) (hx : ρ x = .int .i64 a) (hy : ρ y = .int .i64 b) (h : (a == b) = r) : (execOp ρ o).run Try.prog w = .ok (.value (.bool r)) w := by
  unfold execOp; rw [ho]; simp only [hx, hy]
  go_simp
theorem ex_neq32 {x y : Operand} {a b : Int} {r : Bool} (ho : o.op = .binOp .neq 32 x y 32) (hx : ρ x = .int .i64 a) (hy : ρ y = .int .i64 b) (h : (a == b) = !r) : (execOp ρ o).run Try.prog w = .ok (.value (.bool r)) w := by
  unfold execOp; rw [ho]; simp only [hx, hy]
  have h2 : (a != b) = r := by simp [bne, h]
  go_simp

theorem ex_eql44 {x y : Operand} {a b : Int} {r : Bool} (ho : o.op = .binOp .eql 44 x y 44) (hx : ρ x = .int .i64 a) (hy : ρ y = .int .i64 b) (h : (a == b) = r) : (execOp ρ o).run Try.prog w = .ok (.value (.bool r)) w := by
  unfold execOp; rw [ho]; simp only [hx, hy]
  go_simp
theorem ex_neq44 {x y : Operand} {a b : Int} {r : Bool} (ho : o.op = .binOp .neq 44 x y 44) (hx : ρ x = .int .i64 a) (hy : ρ y = .int .i64 b) (h : (a == b) = !r) : (execOp ρ o).run Try.prog w = .ok (.value (.bool r)) w := by
  unfold execOp; rw [ho]; simp only [hx, hy]
  have h2 : (a != b) = r := by simp [bne, h]
  go_simp

theorem ex_eql63 {x y : Operand} {a b : Int} {r : Bool} (ho : o.op = .binOp .eql 63 x y 63) (hx : ρ x = .int .i64 a) (hy : ρ y = .int .i64 b) (h : (a == b) = r) : (execOp ρ o).run Try.prog w = .ok (.value (.bool r)) w := by
  unfold execOp; rw [ho]; simp only [hx, hy]
  go_simp
theorem ex_neq63 {x y : Operand} {a b : Int} {r : Bool} (ho : o.op = .binOp .neq 63 x y 63) (hx : ρ x = .int .i64 a) (hy : ρ y = .int .i64 b) (h : (a == b) = !r) : (execOp ρ o).run Try.prog w = .ok (.value (.bool r)) w := by
  unfold execOp; rw [ho]; simp only [hx, hy]
  have h2 : (a != b) = r := by simp [bne, h]
  go_simp

theorem ix22 {x y : Operand} {g f n c k q : Nat} (ho : o.op = .indexAddr 22 x y) (hx : ρ x = .slice (some ⟨g, f, none⟩) n c) (hy : ρ y = .int .i64 (k : Int)) (hk : k < n) (hq : f + k = q) : (execOp ρ o).run Try.prog w = .ok (.value (.pointer (some ⟨g, q, none⟩))) w := by
  subst hq
  unfold execOp; rw [ho]; simp only [hx, hy]
  have h0 : (0 : Int) ≤ k := by omega
  have h1 : (k : Int) < n := by omega
  go_simp

theorem ix23 {x y : Operand} {g f n c k q : Nat} (ho : o.op = .indexAddr 23 x y) (hx : ρ x = .slice (some ⟨g, f, none⟩) n c) (hy : ρ y = .int .i64 (k : Int)) (hk : k < n) (hq : f + k * 7 = q) : (execOp ρ o).run Try.prog w = .ok (.value (.pointer (some ⟨g, q, none⟩))) w := by
  subst hq
  unfold execOp; rw [ho]; simp only [hx, hy]
  have h0 : (0 : Int) ≤ k := by omega
  have h1 : (k : Int) < n := by omega
  go_simp

theorem ix24 {x y : Operand} {g f n c k q : Nat} (ho : o.op = .indexAddr 24 x y) (hx : ρ x = .slice (some ⟨g, f, none⟩) n c) (hy : ρ y = .int .i64 (k : Int)) (hk : k < n) (hq : f + k * 3 = q) : (execOp ρ o).run Try.prog w = .ok (.value (.pointer (some ⟨g, q, none⟩))) w := by
  subst hq
  unfold execOp; rw [ho]; simp only [hx, hy]
  have h0 : (0 : Int) ≤ k := by omega
  have h1 : (k : Int) < n := by omega
  go_simp

theorem ix25 {x y : Operand} {g f n c k q : Nat} (ho : o.op = .indexAddr 25 x y) (hx : ρ x = .slice (some ⟨g, f, none⟩) n c) (hy : ρ y = .int .i64 (k : Int)) (hk : k < n) (hq : f + k * 5 = q) : (execOp ρ o).run Try.prog w = .ok (.value (.pointer (some ⟨g, q, none⟩))) w := by
  subst hq
  unfold execOp; rw [ho]; simp only [hx, hy]
  have h0 : (0 : Int) ≤ k := by omega
  have h1 : (k : Int) < n := by omega
  go_simp

theorem ix40 {x y : Operand} {g f n c k q : Nat} (ho : o.op = .indexAddr 40 x y) (hx : ρ x = .slice (some ⟨g, f, none⟩) n c) (hy : ρ y = .int .i64 (k : Int)) (hk : k < n) (hq : f + k = q) : (execOp ρ o).run Try.prog w = .ok (.value (.pointer (some ⟨g, q, none⟩))) w := by
  subst hq
  unfold execOp; rw [ho]; simp only [hx, hy]
  have h0 : (0 : Int) ≤ k := by omega
  have h1 : (k : Int) < n := by omega
  go_simp

theorem ix43 {x y : Operand} {g f n c k q : Nat} (ho : o.op = .indexAddr 43 x y) (hx : ρ x = .slice (some ⟨g, f, none⟩) n c) (hy : ρ y = .int .i64 (k : Int)) (hk : k < n) (hq : f + k * 6 = q) : (execOp ρ o).run Try.prog w = .ok (.value (.pointer (some ⟨g, q, none⟩))) w := by
  subst hq
  unfold execOp; rw [ho]; simp only [hx, hy]
  have h0 : (0 : Int) ≤ k := by omega
  have h1 : (k : Int) < n := by omega
  go_simp

theorem ix49 {x y : Operand} {g f n c k q : Nat} (ho : o.op = .indexAddr 49 x y) (hx : ρ x = .slice (some ⟨g, f, none⟩) n c) (hy : ρ y = .int .i64 (k : Int)) (hk : k < n) (hq : f + k * 3 = q) : (execOp ρ o).run Try.prog w = .ok (.value (.pointer (some ⟨g, q, none⟩))) w := by
  subst hq
  unfold execOp; rw [ho]; simp only [hx, hy]
  have h0 : (0 : Int) ≤ k := by omega
  have h1 : (k : Int) < n := by omega
  go_simp

theorem ix82 {x y : Operand} {g f n c k q : Nat} (ho : o.op = .indexAddr 82 x y) (hx : ρ x = .slice (some ⟨g, f, none⟩) n c) (hy : ρ y = .int .i64 (k : Int)) (hk : k < n) (hq : f + k = q) : (execOp ρ o).run Try.prog w = .ok (.value (.pointer (some ⟨g, q, none⟩))) w := by
  subst hq
  unfold execOp; rw [ho]; simp only [hx, hy]
  have h0 : (0 : Int) ≤ k := by omega
  have h1 : (k : Int) < n := by omega
  go_simp

theorem fa27_0 {x : Operand} {g m : Nat} (ho : o.op = .fieldAddr 27 x 0) (hx : ρ x = .pointer (some ⟨g, m, none⟩)) : (execOp ρ o).run Try.prog w = .ok (.value (.pointer (some ⟨g, m, none⟩))) w := by
  unfold execOp; rw [ho]; simp only [hx]
  go_simp

theorem fa27_1 {x : Operand} {g m : Nat} (ho : o.op = .fieldAddr 27 x 1) (hx : ρ x = .pointer (some ⟨g, m, none⟩)) : (execOp ρ o).run Try.prog w = .ok (.value (.pointer (some ⟨g, m + 1, none⟩))) w := by
  unfold execOp; rw [ho]; simp only [hx]
  go_simp

theorem fa27_2 {x : Operand} {g m : Nat} (ho : o.op = .fieldAddr 27 x 2) (hx : ρ x = .pointer (some ⟨g, m, none⟩)) : (execOp ρ o).run Try.prog w = .ok (.value (.pointer (some ⟨g, m + 2, none⟩))) w := by
  unfold execOp; rw [ho]; simp only [hx]
  go_simp

theorem fa27_3 {x : Operand} {g m : Nat} (ho : o.op = .fieldAddr 27 x 3) (hx : ρ x = .pointer (some ⟨g, m, none⟩)) : (execOp ρ o).run Try.prog w = .ok (.value (.pointer (some ⟨g, m + 3, none⟩))) w := by
  unfold execOp; rw [ho]; simp only [hx]
  go_simp

theorem fa27_4 {x : Operand} {g m : Nat} (ho : o.op = .fieldAddr 27 x 4) (hx : ρ x = .pointer (some ⟨g, m, none⟩)) : (execOp ρ o).run Try.prog w = .ok (.value (.pointer (some ⟨g, m + 4, none⟩))) w := by
  unfold execOp; rw [ho]; simp only [hx]
  go_simp

theorem fa46_0 {x : Operand} {g m : Nat} (ho : o.op = .fieldAddr 46 x 0) (hx : ρ x = .pointer (some ⟨g, m, none⟩)) : (execOp ρ o).run Try.prog w = .ok (.value (.pointer (some ⟨g, m, none⟩))) w := by
  unfold execOp; rw [ho]; simp only [hx]
  go_simp

theorem fa46_1 {x : Operand} {g m : Nat} (ho : o.op = .fieldAddr 46 x 1) (hx : ρ x = .pointer (some ⟨g, m, none⟩)) : (execOp ρ o).run Try.prog w = .ok (.value (.pointer (some ⟨g, m + 1, none⟩))) w := by
  unfold execOp; rw [ho]; simp only [hx]
  go_simp

theorem fa46_2 {x : Operand} {g m : Nat} (ho : o.op = .fieldAddr 46 x 2) (hx : ρ x = .pointer (some ⟨g, m, none⟩)) : (execOp ρ o).run Try.prog w = .ok (.value (.pointer (some ⟨g, m + 2, none⟩))) w := by
  unfold execOp; rw [ho]; simp only [hx]
  go_simp

theorem fa46_3 {x : Operand} {g m : Nat} (ho : o.op = .fieldAddr 46 x 3) (hx : ρ x = .pointer (some ⟨g, m, none⟩)) : (execOp ρ o).run Try.prog w = .ok (.value (.pointer (some ⟨g, m + 3, none⟩))) w := by
  unfold execOp; rw [ho]; simp only [hx]
  go_simp

theorem fa46_4 {x : Operand} {g m : Nat} (ho : o.op = .fieldAddr 46 x 4) (hx : ρ x = .pointer (some ⟨g, m, none⟩)) : (execOp ρ o).run Try.prog w = .ok (.value (.pointer (some ⟨g, m + 4, none⟩))) w := by
  unfold execOp; rw [ho]; simp only [hx]
  go_simp

theorem fa46_5 {x : Operand} {g m : Nat} (ho : o.op = .fieldAddr 46 x 5) (hx : ρ x = .pointer (some ⟨g, m, none⟩)) : (execOp ρ o).run Try.prog w = .ok (.value (.pointer (some ⟨g, m + 5, none⟩))) w := by
  unfold execOp; rw [ho]; simp only [hx]
  go_simp

theorem fa46_6 {x : Operand} {g m : Nat} (ho : o.op = .fieldAddr 46 x 6) (hx : ρ x = .pointer (some ⟨g, m, none⟩)) : (execOp ρ o).run Try.prog w = .ok (.value (.pointer (some ⟨g, m + 6, none⟩))) w := by
  unfold execOp; rw [ho]; simp only [hx]
  go_simp

theorem fa68_0 {x : Operand} {g m : Nat} (ho : o.op = .fieldAddr 68 x 0) (hx : ρ x = .pointer (some ⟨g, m, none⟩)) : (execOp ρ o).run Try.prog w = .ok (.value (.pointer (some ⟨g, m, none⟩))) w := by
  unfold execOp; rw [ho]; simp only [hx]
  go_simp

theorem fa68_1 {x : Operand} {g m : Nat} (ho : o.op = .fieldAddr 68 x 1) (hx : ρ x = .pointer (some ⟨g, m, none⟩)) : (execOp ρ o).run Try.prog w = .ok (.value (.pointer (some ⟨g, m + 1, none⟩))) w := by
  unfold execOp; rw [ho]; simp only [hx]
  go_simp

theorem fa68_2 {x : Operand} {g m : Nat} (ho : o.op = .fieldAddr 68 x 2) (hx : ρ x = .pointer (some ⟨g, m, none⟩)) : (execOp ρ o).run Try.prog w = .ok (.value (.pointer (some ⟨g, m + 5, none⟩))) w := by
  unfold execOp; rw [ho]; simp only [hx]
  go_simp

theorem fa78_0 {x : Operand} {g m : Nat} (ho : o.op = .fieldAddr 78 x 0) (hx : ρ x = .pointer (some ⟨g, m, none⟩)) : (execOp ρ o).run Try.prog w = .ok (.value (.pointer (some ⟨g, m, none⟩))) w := by
  unfold execOp; rw [ho]; simp only [hx]
  go_simp

theorem fa78_1 {x : Operand} {g m : Nat} (ho : o.op = .fieldAddr 78 x 1) (hx : ρ x = .pointer (some ⟨g, m, none⟩)) : (execOp ρ o).run Try.prog w = .ok (.value (.pointer (some ⟨g, m + 1, none⟩))) w := by
  unfold execOp; rw [ho]; simp only [hx]
  go_simp

theorem fa78_2 {x : Operand} {g m : Nat} (ho : o.op = .fieldAddr 78 x 2) (hx : ρ x = .pointer (some ⟨g, m, none⟩)) : (execOp ρ o).run Try.prog w = .ok (.value (.pointer (some ⟨g, m + 2, none⟩))) w := by
  unfold execOp; rw [ho]; simp only [hx]
  go_simp

theorem fa80_0 {x : Operand} {g m : Nat} (ho : o.op = .fieldAddr 80 x 0) (hx : ρ x = .pointer (some ⟨g, m, none⟩)) : (execOp ρ o).run Try.prog w = .ok (.value (.pointer (some ⟨g, m, none⟩))) w := by
  unfold execOp; rw [ho]; simp only [hx]
  go_simp

theorem fa80_1 {x : Operand} {g m : Nat} (ho : o.op = .fieldAddr 80 x 1) (hx : ρ x = .pointer (some ⟨g, m, none⟩)) : (execOp ρ o).run Try.prog w = .ok (.value (.pointer (some ⟨g, m + 1, none⟩))) w := by
  unfold execOp; rw [ho]; simp only [hx]
  go_simp

theorem fa51_0 {x : Operand} {g m : Nat} (ho : o.op = .fieldAddr 51 x 0) (hx : ρ x = .pointer (some ⟨g, m, none⟩)) : (execOp ρ o).run Try.prog w = .ok (.value (.pointer (some ⟨g, m, none⟩))) w := by
  unfold execOp; rw [ho]; simp only [hx]
  go_simp

theorem fa51_1 {x : Operand} {g m : Nat} (ho : o.op = .fieldAddr 51 x 1) (hx : ρ x = .pointer (some ⟨g, m, none⟩)) : (execOp ρ o).run Try.prog w = .ok (.value (.pointer (some ⟨g, m + 1, none⟩))) w := by
  unfold execOp; rw [ho]; simp only [hx]
  go_simp

theorem fa51_2 {x : Operand} {g m : Nat} (ho : o.op = .fieldAddr 51 x 2) (hx : ρ x = .pointer (some ⟨g, m, none⟩)) : (execOp ρ o).run Try.prog w = .ok (.value (.pointer (some ⟨g, m + 2, none⟩))) w := by
  unfold execOp; rw [ho]; simp only [hx]
  go_simp

end
end Go.Proofs.Ytiihdbchchnncaa
end
section
namespace Go.Proofs.Ytiihdbchchnncaa
open Go Go.RowKit Go.Maps Go.WideMaps Go.Vals Go.Vals

/-- May a name be? -/
def nameB (s : ByteArray) : Bool := decide (1 ≤ s.size) && decide (s.size ≤ 1000)

set_option maxHeartbeats 400000 in
theorem f77_any (s : ByteArray) (w : World) : Calls Try.prog 77 #[.string s] w fun e w' => e = .returned (.bool (nameB s)) ∧ Below w.heap.size w w' := by
  unfold nameB
  by_cases h : 1 ≤ s.size
  · have h1 : decide (1 ≤ s.size) = true := by simpa using h
    have i1 : (1 : Int) ≤ (s.size : Int) := by omega
    rw [h1, Bool.true_and]
    by_cases h2 : s.size ≤ 1000
    · have h3 : decide (s.size ≤ 1000) = true := by simpa using h2
      have i2 : (s.size : Int) ≤ 1000 := by omega
      rw [h3]
      go_enter Try.func77, Try.ntmps77
      go_wp2
      go_ret
      exact ⟨rfl, Below.refl _ _⟩
    · have h3 : decide (s.size ≤ 1000) = false := by simpa using h2
      have i2 : ¬ (s.size : Int) ≤ 1000 := by omega
      rw [h3]
      go_enter Try.func77, Try.ntmps77
      go_wp2
      go_ret
      exact ⟨rfl, Below.refl _ _⟩
  · have h1 : decide (1 ≤ s.size) = false := by simpa using h
    have i1 : ¬ (1 : Int) ≤ (s.size : Int) := by omega
    rw [h1, Bool.false_and]
    go_enter Try.func77, Try.ntmps77
    go_wp2
    go_ret
    exact ⟨rfl, Below.refl _ _⟩

/-- What a grammar that came in is bound by. -/
structure FitG (g : GramM) : Prop where
  fit : Fit g
  forb : ∀ f, f ∈ g.forbid → FitF f
  fol : ∀ f, f ∈ g.follow → I64 f.sort

/-- May what is forbidden be? -/
def forbidsB (g : GramM) : Bool := onceA forEq [] g.forbid && g.forbid.all (forbidB g)

set_option maxRecDepth 100000 in
set_option maxHeartbeats 1000000 in
theorem forbidsMay_any (g : GramM) (w : World) (hg : GIn w g) (hf : FitG g) : Calls Try.prog 62 #[gramV g] w fun e w' => e = .returned (.bool (forbidsB g)) ∧ Below w.heap.size w w' := by
  have hB1 : Below w.heap.size w (w.alloc (.cells (gramC g) 27)) := (Below.refl _ _).alloc (Nat.le_refl _) _
  have HO := Lib.hid (onceFor_any g.fa g.fc g.forbid _ (hg.forbid.belowN hB1) hf.fit.forbid hf.forb)
  have HA := Lib.hid (fun W (hW : Below (w.alloc (.cells (gramC g) 27)).heap.size (w.alloc (.cells (gramC g) 27)) W) => allFor_any g.fa g.fc g.forbid (forbidB g) 83 #[.pointer (some ⟨w.heap.size, 0, none⟩)] (fun _ _ => by kernel_rfl) W ((hg.forbid.belowN hB1).belowN hW) hf.fit.forbid (fun f hF V hV =>
    f83_any f g w.heap.size V ((hg.below hB1).below (hW.trans (hV.mono hW.size))) hf.fit (hf.forb f hF) ((Blk.new w 27 (gramC g)).below (hW.trans (hV.mono hW.size)) (by simp))))
  have HB := Lib.hid hB1
  have HR : Hid (forbidsB g = (onceA forEq [] g.forbid && g.forbid.all (forbidB g))) := Lib.hid rfl
  have HK := Lib.hid (fun W (hW : Below (w.alloc (.cells (gramC g) 27)).heap.size (w.alloc (.cells (gramC g) 27)) W) => ((Blk.new w 27 (gramC g)).below hW (by simp)).gram)
  clear hg hf hB1
  generalize g.forbid.all (forbidB g) = r at *
  generalize onceA forEq [] g.forbid = o at *
  generalize forbidsB g = q at *
  unfold gramV gramC at *
  cases o with
  | false =>
    have HR2 : Hid (q = false) := Lib.hid (by rw [HR.out]; rfl)
    clear HR HA HK
    go_enter Try.func62, Try.ntmps62
    go_wp2_with fail
    refine HO.out.mono ?_
    rintro e w3 ⟨rfl, hB3⟩
    have HB3 := Lib.hid (HB.out.trans (hB3.mono HB.out.size))
    clear hB3
    go_wp2
    go_ret
    exact ⟨by rw [HR2.out]; try rfl, HB3.out⟩
  | true =>
    have HR2 : Hid (q = r) := Lib.hid (by rw [HR.out]; rfl)
    clear HR
    go_enter Try.func62, Try.ntmps62
    go_wp2_with fail
    refine HO.out.mono ?_
    rintro e w3 ⟨rfl, hB3⟩
    have HA3 := Lib.hid (HA.out _ hB3)
    obtain ⟨_, _, _, c3, _⟩ := HK.out _ hB3
    have HB3 := Lib.hid (HB.out.trans (hB3.mono HB.out.size))
    have hlt : w.heap.size < w3.heap.size := by have := hB3.size; simp at this; omega
    clear hB3 HA HK HO
    go_wp2_with fail
    refine HA3.out.mono ?_
    rintro e w4 ⟨rfl, hB4⟩
    have HB4 := Lib.hid (HB3.out.trans (hB4.mono HB3.out.size))
    clear hB4 c3
    go_wp2
    go_ret
    exact ⟨by rw [HR2.out]; try rfl, HB4.out⟩

/-- May the sorts' names be? -/
def sortsB' (g : GramM) : Bool := decide (1 ≤ g.sorts.length) && (decide (g.sorts.length ≤ 1000) && (g.sorts.all nameB && onceA strEq [] g.sorts))

set_option maxRecDepth 100000 in
set_option maxHeartbeats 2000000 in
theorem sortsMay_any (g : GramM) (w : World) (hg : GIn w g) (hf : Fit g) : Calls Try.prog 59 #[gramV g] w fun e w' => e = .returned (.bool (sortsB' g)) ∧ Below w.heap.size w w' := by
  have hB1 : Below w.heap.size w (w.alloc (.cells (gramC g) 27)) := (Below.refl _ _).alloc (Nat.le_refl _) _
  have HA := Lib.hid (fun W (hW : Below w.heap.size w W) => allStr_any g.sa g.sc g.sorts nameB 77 #[] (fun _ _ => by kernel_rfl) W (hg.sorts.belowN hW) hf.sorts (fun s hs V hV => f77_any s V))
  have HN := Lib.hid (fun W (hW : Below w.heap.size w W) => byName_any g.sa g.sc g.sorts hf.sorts hf.names W (hg.sorts.belowN hW))
  have HO : Hid (decide (size (nm 0 g.sorts) = g.sorts.length) = onceA strEq [] g.sorts) := Lib.hid (nm_size g.sorts hf.names 0).2
  have HB := Lib.hid hB1
  have HR : Hid (sortsB' g = (decide (1 ≤ g.sorts.length) && (decide (g.sorts.length ≤ 1000) && (g.sorts.all nameB && onceA strEq [] g.sorts)))) := Lib.hid rfl
  have HK := Lib.hid (fun W (hW : Below (w.alloc (.cells (gramC g) 27)).heap.size (w.alloc (.cells (gramC g) 27)) W) => ((Blk.new w 27 (gramC g)).below hW (by simp)).gram)
  clear hg hf hB1
  generalize g.sorts.all nameB = ra at *
  generalize onceA strEq [] g.sorts = o at *
  generalize sortsB' g = q at *
  unfold gramV gramC at *
  generalize nm 0 g.sorts = D at *
  generalize g.sorts.length = n at *
  obtain ⟨W0, hW0⟩ : ∃ W0, W0 = w.alloc (.cells #[.slice g.sa n g.sc, .slice g.pa g.prods.length g.pc, .int .i64 g.start, .slice g.fa g.forbid.length g.fc, .slice g.wa g.follow.length g.wc] 27) := ⟨_, rfl⟩
  have hN : ∀ W : World, Below W.heap.size W W := fun W => Below.refl _ W
  by_cases h1 : 1 ≤ n
  · have i1 : decide ((1 : Int) ≤ ((n : Nat) : Int)) = true := by simp; omega
    by_cases h2 : n ≤ 1000
    · have i2 : decide (((n : Nat) : Int) ≤ 1000) = true := by simp; omega
      have HR2 : Hid (q = (ra && o)) := Lib.hid (by rw [HR.out]; simp [h1, h2])
      clear HR h1 h2
      cases ra with
      | false =>
        have HR3 : Hid (q = false) := Lib.hid (by rw [HR2.out]; rfl)
        clear HR2 HN HO
        go_enter Try.func59, Try.ntmps59
        go_wp2_with fail
        rw [← hW0] at HB HK ⊢
        clear hW0
        refine wp_region_vals0 (N := fun W W' => Below W.heap.size W W') (S := fun W => Below W0.heap.size W0 W)
          [.pointer (some ⟨w.heap.size, 0, none⟩), .slice g.sa n g.sc, .int .i64 (n : Nat), .bool true, .bool true, .pointer (some ⟨w.heap.size, 0, none⟩), .slice g.sa n g.sc, .int .i64 (n : Nat), .bool true, .bool true, .bool true, .pointer (some ⟨w.heap.size, 0, none⟩), .slice g.sa n g.sc, .bool false, .bool false, .bool false, undef, undef, undef, undef, undef, undef, undef, undef, .bool false, .bool false]
          #[.agg #[.slice g.sa n g.sc, .slice g.pa g.prods.length g.pc, .int .i64 g.start, .slice g.fa g.forbid.length g.fc, .slice g.wa g.follow.length g.wc], .pointer (some ⟨w.heap.size, 0, none⟩), .bool false, .pointer (some ⟨w.heap.size, 0, none⟩), .slice g.sa n g.sc, .int .i64 (n : Nat), .bool true, .bool true, .pointer (some ⟨w.heap.size, 0, none⟩), .slice g.sa n g.sc, .int .i64 (n : Nat), .bool true, .bool true, .bool true, .pointer (some ⟨w.heap.size, 0, none⟩), .slice g.sa n g.sc, .bool false, .bool false, .bool false, undef, undef, undef, undef, undef, undef, undef, undef, .bool false]
          rfl (by kernel_rfl) (by kernel_rfl) (by kernel_rfl) hN (Below.refl _ W0).drew (fun W W' h hB => h.trans (hB.mono h.size)) ?_ ?_
        · refine Each.val 3 (.pointer (some ⟨w.heap.size, 0, none⟩)) (by kernel_rfl) (by kernel_rfl) (by kernel_rfl) hN (fun W hS _ => fa27_0 rfl (by kernel_rfl)) ?_
          refine Each.val 4 (.slice g.sa n g.sc) (by kernel_rfl) (by kernel_rfl) (by kernel_rfl) hN (fun W hS _ => ld22 rfl (by kernel_rfl) ((HK.out W hS).1)) ?_
          refine Each.val 5 (.int .i64 (n : Nat)) (by kernel_rfl) (by kernel_rfl) (by kernel_rfl) hN (fun W hS _ => len22 (a := g.sa) (c := g.sc) rfl (by kernel_rfl)) ?_
          refine Each.val 6 (.bool true) (by kernel_rfl) (by kernel_rfl) (by kernel_rfl) hN (fun W hS _ => ex_leq rfl (by kernel_rfl) (by kernel_rfl) (i1)) ?_
          refine Each.val 7 (.bool true) (by kernel_rfl) (by kernel_rfl) (by kernel_rfl) hN (fun _ _ _ => by kernel_rfl) ?_
          refine Each.val 8 (.pointer (some ⟨w.heap.size, 0, none⟩)) (by kernel_rfl) (by kernel_rfl) (by kernel_rfl) hN (fun W hS _ => fa27_0 rfl (by kernel_rfl)) ?_
          refine Each.val 9 (.slice g.sa n g.sc) (by kernel_rfl) (by kernel_rfl) (by kernel_rfl) hN (fun W hS _ => ld22 rfl (by kernel_rfl) ((HK.out W hS).1)) ?_
          refine Each.val 10 (.int .i64 (n : Nat)) (by kernel_rfl) (by kernel_rfl) (by kernel_rfl) hN (fun W hS _ => len22 (a := g.sa) (c := g.sc) rfl (by kernel_rfl)) ?_
          refine Each.val 11 (.bool true) (by kernel_rfl) (by kernel_rfl) (by kernel_rfl) hN (fun W hS _ => ex_leq rfl (by kernel_rfl) (by kernel_rfl) (i2)) ?_
          refine Each.val 12 (.bool true) (by kernel_rfl) (by kernel_rfl) (by kernel_rfl) hN (fun _ _ _ => by kernel_rfl) ?_
          refine Each.val 13 (.bool true) (by kernel_rfl) (by kernel_rfl) (by kernel_rfl) hN (fun _ _ _ => by kernel_rfl) ?_
          refine Each.val 14 (.pointer (some ⟨w.heap.size, 0, none⟩)) (by kernel_rfl) (by kernel_rfl) (by kernel_rfl) hN (fun W hS _ => fa27_0 rfl (by kernel_rfl)) ?_
          refine Each.val 15 (.slice g.sa n g.sc) (by kernel_rfl) (by kernel_rfl) (by kernel_rfl) hN (fun W hS _ => ld22 rfl (by kernel_rfl) ((HK.out W hS).1)) ?_
          refine Each.call 16 (.bool false) 76 #[.slice g.sa n g.sc, .func (.func 77) #[] #[]] (by kernel_rfl) (by kernel_rfl) (by kernel_rfl) (fun _ _ => by kernel_rfl) (fun W hS => HA.out W (HB.out.trans (hS.mono HB.out.size))) ?_
          refine Each.val 17 (.bool false) (by kernel_rfl) (by kernel_rfl) (by kernel_rfl) hN (fun _ _ _ => by kernel_rfl) ?_
          refine Each.val 18 (.bool false) (by kernel_rfl) (by kernel_rfl) (by kernel_rfl) hN (fun _ _ _ => by kernel_rfl) ?_
          refine Each.off 19 (by kernel_rfl) (by kernel_rfl) (by kernel_rfl) ?_
          refine Each.off 20 (by kernel_rfl) (by kernel_rfl) (by kernel_rfl) ?_
          refine Each.off 21 (by kernel_rfl) (by kernel_rfl) (by kernel_rfl) ?_
          refine Each.off 22 (by kernel_rfl) (by kernel_rfl) (by kernel_rfl) ?_
          refine Each.off 23 (by kernel_rfl) (by kernel_rfl) (by kernel_rfl) ?_
          refine Each.off 24 (by kernel_rfl) (by kernel_rfl) (by kernel_rfl) ?_
          refine Each.off 25 (by kernel_rfl) (by kernel_rfl) (by kernel_rfl) ?_
          refine Each.off 26 (by kernel_rfl) (by kernel_rfl) (by kernel_rfl) ?_
          refine Each.val 27 (.bool false) (by kernel_rfl) (by kernel_rfl) (by kernel_rfl) hN (fun _ _ _ => by kernel_rfl) ?_
          refine Each.val 2 (.bool false) (by kernel_rfl) (by kernel_rfl) (by kernel_rfl) hN (fun _ _ _ => by kernel_rfl) ?_
          exact trivial
        · intro w' hS
          have HB3 := Lib.hid (HB.out.trans (hS.mono HB.out.size))
          clear hS hN
          go_wp2
          go_ret
          exact ⟨by rw [HR3.out]; try rfl, HB3.out⟩
      | true =>
        have HR3 : Hid (q = o) := Lib.hid (by rw [HR2.out]; rfl)
        clear HR2 hN
        go_enter Try.func59, Try.ntmps59
        go_wp2_with fail
        rw [← hW0] at HB HK ⊢
        have c0 := (HK.out W0 (Below.refl _ _)).1
        have hl0 : w.heap.size < W0.heap.size := by rw [hW0]; simp
        clear hW0
        go_region_held (fun W => W.cell? ⟨w.heap.size, 0, none⟩ = some (.slice g.sa n g.sc)) (go_keep)
          (first
            | (go_at_call 76; (with_reducible refine (HA.out _ HB.out.drew).mono ?_); rintro e w3 ⟨rfl, hB3⟩; have hB3' : Below W0.heap.size W0 w3 := ⟨hB3.os, hB3.tape, hB3.output, hB3.size, hB3.block⟩; have e0 := (HK.out w3 hB3').1; have HB3 := Lib.hid hB3'; clear hB3 hB3')
            | (go_at_call 41; (with_reducible refine (HN.out _ (HB.out.trans (HB3.out.mono HB.out.size))).mono ?_); rintro e w4 ⟨rfl, hown, hB4⟩; have hB4' := HB3.out.trans (hB4.mono HB3.out.size); have e1 := (HK.out w4 hB4').1; have hlen := fun ty => hown.len Try.underlying89 ty; have HB4 := Lib.hid (HB.out.trans (hB4'.mono HB.out.size)); clear hB4 hB4' hown))
        go_wp2
        go_ret
        exact ⟨by
          rw [HR3.out, ← HO.out]
          show Ending.returned (.bool _) = Ending.returned (.bool _)
          rw [Ending.returned.injEq, Value.bool.injEq, Bool.eq_iff_iff]
          simp
          exact Int.ofNat_inj, HB4.out⟩
    · have i2 : decide (((n : Nat) : Int) ≤ 1000) = false := by simp; omega
      have HR3 : Hid (q = false) := Lib.hid (by rw [HR.out]; simp [h1, h2])
      clear HR h1 h2 HN HO HA
      go_enter Try.func59, Try.ntmps59
      go_wp2_with fail
      rw [← hW0] at HB HK ⊢
      clear hW0
      refine wp_region_vals0 (N := fun W W' => Below W.heap.size W W') (S := fun W => Below W0.heap.size W0 W)
        [.pointer (some ⟨w.heap.size, 0, none⟩), .slice g.sa n g.sc, .int .i64 (n : Nat), .bool true, .bool true, .pointer (some ⟨w.heap.size, 0, none⟩), .slice g.sa n g.sc, .int .i64 (n : Nat), .bool false, .bool false, .bool false, undef, undef, undef, .bool false, .bool false, undef, undef, undef, undef, undef, undef, undef, undef, .bool false, .bool false]
        #[.agg #[.slice g.sa n g.sc, .slice g.pa g.prods.length g.pc, .int .i64 g.start, .slice g.fa g.forbid.length g.fc, .slice g.wa g.follow.length g.wc], .pointer (some ⟨w.heap.size, 0, none⟩), .bool false, .pointer (some ⟨w.heap.size, 0, none⟩), .slice g.sa n g.sc, .int .i64 (n : Nat), .bool true, .bool true, .pointer (some ⟨w.heap.size, 0, none⟩), .slice g.sa n g.sc, .int .i64 (n : Nat), .bool false, .bool false, .bool false, undef, undef, undef, .bool false, .bool false, undef, undef, undef, undef, undef, undef, undef, undef, .bool false]
        rfl (by kernel_rfl) (by kernel_rfl) (by kernel_rfl) hN (Below.refl _ W0).drew (fun W W' h hB => h.trans (hB.mono h.size)) ?_ ?_
      · refine Each.val 3 (.pointer (some ⟨w.heap.size, 0, none⟩)) (by kernel_rfl) (by kernel_rfl) (by kernel_rfl) hN (fun W hS _ => fa27_0 rfl (by kernel_rfl)) ?_
        refine Each.val 4 (.slice g.sa n g.sc) (by kernel_rfl) (by kernel_rfl) (by kernel_rfl) hN (fun W hS _ => ld22 rfl (by kernel_rfl) ((HK.out W hS).1)) ?_
        refine Each.val 5 (.int .i64 (n : Nat)) (by kernel_rfl) (by kernel_rfl) (by kernel_rfl) hN (fun W hS _ => len22 (a := g.sa) (c := g.sc) rfl (by kernel_rfl)) ?_
        refine Each.val 6 (.bool true) (by kernel_rfl) (by kernel_rfl) (by kernel_rfl) hN (fun W hS _ => ex_leq rfl (by kernel_rfl) (by kernel_rfl) (i1)) ?_
        refine Each.val 7 (.bool true) (by kernel_rfl) (by kernel_rfl) (by kernel_rfl) hN (fun _ _ _ => by kernel_rfl) ?_
        refine Each.val 8 (.pointer (some ⟨w.heap.size, 0, none⟩)) (by kernel_rfl) (by kernel_rfl) (by kernel_rfl) hN (fun W hS _ => fa27_0 rfl (by kernel_rfl)) ?_
        refine Each.val 9 (.slice g.sa n g.sc) (by kernel_rfl) (by kernel_rfl) (by kernel_rfl) hN (fun W hS _ => ld22 rfl (by kernel_rfl) ((HK.out W hS).1)) ?_
        refine Each.val 10 (.int .i64 (n : Nat)) (by kernel_rfl) (by kernel_rfl) (by kernel_rfl) hN (fun W hS _ => len22 (a := g.sa) (c := g.sc) rfl (by kernel_rfl)) ?_
        refine Each.val 11 (.bool false) (by kernel_rfl) (by kernel_rfl) (by kernel_rfl) hN (fun W hS _ => ex_leq rfl (by kernel_rfl) (by kernel_rfl) (i2)) ?_
        refine Each.val 12 (.bool false) (by kernel_rfl) (by kernel_rfl) (by kernel_rfl) hN (fun _ _ _ => by kernel_rfl) ?_
        refine Each.val 13 (.bool false) (by kernel_rfl) (by kernel_rfl) (by kernel_rfl) hN (fun _ _ _ => by kernel_rfl) ?_
        refine Each.off 14 (by kernel_rfl) (by kernel_rfl) (by kernel_rfl) ?_
        refine Each.off 15 (by kernel_rfl) (by kernel_rfl) (by kernel_rfl) ?_
        refine Each.off 16 (by kernel_rfl) (by kernel_rfl) (by kernel_rfl) ?_
        refine Each.val 17 (.bool false) (by kernel_rfl) (by kernel_rfl) (by kernel_rfl) hN (fun _ _ _ => by kernel_rfl) ?_
        refine Each.val 18 (.bool false) (by kernel_rfl) (by kernel_rfl) (by kernel_rfl) hN (fun _ _ _ => by kernel_rfl) ?_
        refine Each.off 19 (by kernel_rfl) (by kernel_rfl) (by kernel_rfl) ?_
        refine Each.off 20 (by kernel_rfl) (by kernel_rfl) (by kernel_rfl) ?_
        refine Each.off 21 (by kernel_rfl) (by kernel_rfl) (by kernel_rfl) ?_
        refine Each.off 22 (by kernel_rfl) (by kernel_rfl) (by kernel_rfl) ?_
        refine Each.off 23 (by kernel_rfl) (by kernel_rfl) (by kernel_rfl) ?_
        refine Each.off 24 (by kernel_rfl) (by kernel_rfl) (by kernel_rfl) ?_
        refine Each.off 25 (by kernel_rfl) (by kernel_rfl) (by kernel_rfl) ?_
        refine Each.off 26 (by kernel_rfl) (by kernel_rfl) (by kernel_rfl) ?_
        refine Each.val 27 (.bool false) (by kernel_rfl) (by kernel_rfl) (by kernel_rfl) hN (fun _ _ _ => by kernel_rfl) ?_
        refine Each.val 2 (.bool false) (by kernel_rfl) (by kernel_rfl) (by kernel_rfl) hN (fun _ _ _ => by kernel_rfl) ?_
        exact trivial
      · intro w' hS
        have HB3 := Lib.hid (HB.out.trans (hS.mono HB.out.size))
        clear hS hN
        go_wp2
        go_ret
        exact ⟨by rw [HR3.out]; try rfl, HB3.out⟩
  · have i1 : decide ((1 : Int) ≤ ((n : Nat) : Int)) = false := by simp; omega
    have HR3 : Hid (q = false) := Lib.hid (by rw [HR.out]; simp [h1])
    clear HR h1 HN HO HA
    go_enter Try.func59, Try.ntmps59
    go_wp2_with fail
    rw [← hW0] at HB HK ⊢
    clear hW0
    refine wp_region_vals0 (N := fun W W' => Below W.heap.size W W') (S := fun W => Below W0.heap.size W0 W)
      [.pointer (some ⟨w.heap.size, 0, none⟩), .slice g.sa n g.sc, .int .i64 (n : Nat), .bool false, .bool false, undef, undef, undef, undef, .bool false, .bool false, undef, undef, undef, .bool false, .bool false, undef, undef, undef, undef, undef, undef, undef, undef, .bool false, .bool false]
      #[.agg #[.slice g.sa n g.sc, .slice g.pa g.prods.length g.pc, .int .i64 g.start, .slice g.fa g.forbid.length g.fc, .slice g.wa g.follow.length g.wc], .pointer (some ⟨w.heap.size, 0, none⟩), .bool false, .pointer (some ⟨w.heap.size, 0, none⟩), .slice g.sa n g.sc, .int .i64 (n : Nat), .bool false, .bool false, undef, undef, undef, undef, .bool false, .bool false, undef, undef, undef, .bool false, .bool false, undef, undef, undef, undef, undef, undef, undef, undef, .bool false]
      rfl (by kernel_rfl) (by kernel_rfl) (by kernel_rfl) hN (Below.refl _ W0).drew (fun W W' h hB => h.trans (hB.mono h.size)) ?_ ?_
    · refine Each.val 3 (.pointer (some ⟨w.heap.size, 0, none⟩)) (by kernel_rfl) (by kernel_rfl) (by kernel_rfl) hN (fun W hS _ => fa27_0 rfl (by kernel_rfl)) ?_
      refine Each.val 4 (.slice g.sa n g.sc) (by kernel_rfl) (by kernel_rfl) (by kernel_rfl) hN (fun W hS _ => ld22 rfl (by kernel_rfl) ((HK.out W hS).1)) ?_
      refine Each.val 5 (.int .i64 (n : Nat)) (by kernel_rfl) (by kernel_rfl) (by kernel_rfl) hN (fun W hS _ => len22 (a := g.sa) (c := g.sc) rfl (by kernel_rfl)) ?_
      refine Each.val 6 (.bool false) (by kernel_rfl) (by kernel_rfl) (by kernel_rfl) hN (fun W hS _ => ex_leq rfl (by kernel_rfl) (by kernel_rfl) (i1)) ?_
      refine Each.val 7 (.bool false) (by kernel_rfl) (by kernel_rfl) (by kernel_rfl) hN (fun _ _ _ => by kernel_rfl) ?_
      refine Each.off 8 (by kernel_rfl) (by kernel_rfl) (by kernel_rfl) ?_
      refine Each.off 9 (by kernel_rfl) (by kernel_rfl) (by kernel_rfl) ?_
      refine Each.off 10 (by kernel_rfl) (by kernel_rfl) (by kernel_rfl) ?_
      refine Each.off 11 (by kernel_rfl) (by kernel_rfl) (by kernel_rfl) ?_
      refine Each.val 12 (.bool false) (by kernel_rfl) (by kernel_rfl) (by kernel_rfl) hN (fun _ _ _ => by kernel_rfl) ?_
      refine Each.val 13 (.bool false) (by kernel_rfl) (by kernel_rfl) (by kernel_rfl) hN (fun _ _ _ => by kernel_rfl) ?_
      refine Each.off 14 (by kernel_rfl) (by kernel_rfl) (by kernel_rfl) ?_
      refine Each.off 15 (by kernel_rfl) (by kernel_rfl) (by kernel_rfl) ?_
      refine Each.off 16 (by kernel_rfl) (by kernel_rfl) (by kernel_rfl) ?_
      refine Each.val 17 (.bool false) (by kernel_rfl) (by kernel_rfl) (by kernel_rfl) hN (fun _ _ _ => by kernel_rfl) ?_
      refine Each.val 18 (.bool false) (by kernel_rfl) (by kernel_rfl) (by kernel_rfl) hN (fun _ _ _ => by kernel_rfl) ?_
      refine Each.off 19 (by kernel_rfl) (by kernel_rfl) (by kernel_rfl) ?_
      refine Each.off 20 (by kernel_rfl) (by kernel_rfl) (by kernel_rfl) ?_
      refine Each.off 21 (by kernel_rfl) (by kernel_rfl) (by kernel_rfl) ?_
      refine Each.off 22 (by kernel_rfl) (by kernel_rfl) (by kernel_rfl) ?_
      refine Each.off 23 (by kernel_rfl) (by kernel_rfl) (by kernel_rfl) ?_
      refine Each.off 24 (by kernel_rfl) (by kernel_rfl) (by kernel_rfl) ?_
      refine Each.off 25 (by kernel_rfl) (by kernel_rfl) (by kernel_rfl) ?_
      refine Each.off 26 (by kernel_rfl) (by kernel_rfl) (by kernel_rfl) ?_
      refine Each.val 27 (.bool false) (by kernel_rfl) (by kernel_rfl) (by kernel_rfl) hN (fun _ _ _ => by kernel_rfl) ?_
      refine Each.val 2 (.bool false) (by kernel_rfl) (by kernel_rfl) (by kernel_rfl) hN (fun _ _ _ => by kernel_rfl) ?_
      exact trivial
    · intro w' hS
      have HB3 := Lib.hid (HB.out.trans (hS.mono HB.out.size))
      clear hS hN
      go_wp2
      go_ret
      exact ⟨by rw [HR3.out]; try rfl, HB3.out⟩
end Go.Proofs.Ytiihdbchchnncaa
end
section
namespace Go.Proofs.Ytiihdbchchnncaa
open Go Go.RowKit Go.Maps Go.WideMaps

theorem Try.info3 : (Try.prog.info? 3).map (fun i => (i.zero, i.size, i.bytes)) = some (some (.int .i64 0), 1, 8) := by kernel_rfl

/-- May one be that follows? -/
def folB (n : Int) (f : FolM) : Bool := numB f.sort n && !(f.not == 0#256)
def followsB (g : GramM) : Bool := g.follow.all (folB g.sorts.length) && onceA (fun a b => a == b) [] (g.follow.map (·.sort))
theorem all_false {α : Type} (p : α → Bool) (l : List α) (i : Nat) (x : α) (hx : l[i]? = some x) (h : p x = false) : l.all p = false := by
  rw [List.all_eq_false]
  exact ⟨x, List.mem_of_getElem? hx, by rw [h]; simp⟩

set_option maxRecDepth 100000 in
set_option maxHeartbeats 2000000 in
theorem followsMay_any (g : GramM) (w : World) (hg : GIn w g) (hf : FitG g) : Calls Try.prog 63 #[gramV g] w fun e w' => e = .returned (.bool (followsB g)) ∧ Below w.heap.size w w' := by
  have HL := Lib.hid hg.follow
  have HF := Lib.hid hf.fol
  have hn := hf.fit.follow
  have HB0 : Hid (Below w.heap.size w (w.alloc (.cells (gramC g) 27))) := Lib.hid ((Below.refl _ _).alloc (Nat.le_refl _) _)
  have HK0 : Hid (Blk (w.alloc (.cells (gramC g) 27)) w.heap.size 27 (gramC g)) := Lib.hid (Blk.new w 27 (gramC g))
  have HN := fun x w' => Lib.hid (num_any x g.sorts.length w')
  obtain ⟨i0, hi, hz0, hz1, hz2⟩ := info_parts Try.info3
  clear hg hf
  unfold gramV
  obtain ⟨n, hln⟩ : ∃ n, n = g.follow.length := ⟨_, rfl⟩
  have HLn := Lib.hid hln
  rw [← hln] at hn
  clear hln
  unfold gramC at *
  rw [← HLn.out] at HB0 HK0 ⊢
  go_enter Try.func63, Try.ntmps63
  go_wp2
  go_loopw [3, 9] (fun v i wr => ∃ (k : Nat), i = .int .i64 k ∧ k ≤ n ∧ Hid (∀ f, f ∈ g.follow.take k → folB g.sorts.length f = true) ∧ Hid (wr.ownsRow (w.heap.size + 1) 3 1 v k (cellsL intC ((g.follow.take k).map (·.sort))))
      ∧ Hid (Blk wr w.heap.size 27 #[.slice g.sa g.sorts.length g.sc, .slice g.pa g.prods.length g.pc, .int .i64 g.start, .slice g.fa g.forbid.length g.fc, .slice g.wa n g.wc]) ∧ Hid (Below w.heap.size w wr))
    (fun _ i _ => n - (intOf i).toNat)
  case atStart => exact ⟨0, rfl, Nat.zero_le _, Lib.hid (fun f h => by simp at h), Lib.hid (World.ownsRow_nil _ _ _ _), HK0, HB0⟩
  case round =>
    clear HB0 HK0
    obtain ⟨k, rfl, hk, hA, hO, hK, hB⟩ := hrel
    obtain ⟨g0, _, _, _, _⟩ : _ ∧ _ ∧ _ ∧ _ ∧ _ := ⟨hK.out.cell 0, hK.out.cell 1, hK.out.cell 2, hK.out.cell 3, hK.out.cell 4⟩
    simp only [List.getElem?_toArray, List.getElem?_cons_zero] at g0
    have hlK := hK.out.lt
    by_cases hlt : k < n
    · obtain ⟨f, hf⟩ : ∃ f, g.follow[k]? = some f := ⟨_, List.getElem?_eq_getElem (by rw [← HLn.out]; exact hlt)⟩
      have HX := Lib.hid hf
      have HT := Lib.hid (take_snoc g.follow k f hf)
      obtain ⟨b, off, hwa, hbw, hc, _⟩ := HL.out k f hf
      rw [hwa] at hK ⊢
      have hc := hc.below hB.out hbw
      have hbr := Nat.lt_of_lt_of_le hbw hB.out.size
      obtain ⟨c0, c1, c2, c3, c4⟩ := Fol_at hc
      have n1 : (k : Int) < (n : Int) := by omega
      have HFB : Hid (folB g.sorts.length f = (numB f.sort g.sorts.length && !(f.not == 0#256))) := Lib.hid rfl
      have HNf := fun w' => Lib.hid ((HN f.sort w').out)
      have HE := fun w' => Lib.hid (eq_zero f.not w')
      obtain ⟨fs, fnot⟩ := f
      dsimp only at *
      clear hc hf
      generalize (fnot == 0#256) = r2 at *
      generalize numB fs g.sorts.length = r1 at *
      have hszr := hB.out.size
      cases r1 with
      | false =>
        have HR : Hid (followsB g = false) := Lib.hid (by unfold followsB; rw [all_false _ _ k _ HX.out HFB.out]; rfl)
        clear HFB HE HN
        go_wp2_with (go_at_call 42; (with_reducible refine (HNf _).out.mono ?_); rintro e w3 ⟨rfl, rfl⟩)
        go_ret
        exact ⟨by rw [HR.out]; try rfl, hB.out.alloc hszr _⟩
      | true =>
        cases r2 with
        | true =>
          have HR : Hid (followsB g = false) := Lib.hid (by unfold followsB; rw [all_false _ _ k _ HX.out HFB.out]; rfl)
          have HE' := fun w' => (HE w').out
          clear HFB HN
          go_wp2_with (go_at_call 42; (with_reducible refine (HNf _).out.mono ?_); rintro e w3 ⟨rfl, rfl⟩)
          go_ret
          exact ⟨by rw [HR.out]; try rfl, hB.out.alloc hszr _⟩
        | false =>
          have HE' := fun w' => (HE w').out
          have hA2 : Hid (∀ f, f ∈ g.follow.take (k + 1) → folB g.sorts.length f = true) := Lib.hid (fun f hf => by
            rw [HT.out] at hf
            rcases List.mem_append.1 hf with h | h
            · exact hA.out f h
            · simp at h; subst h; exact HFB.out)
          have hO1 := Lib.hid ((hO.out.alloc (.cells #[.int .i64 fs, .int .u64 (wdI fnot 0), .int .u64 (wdI fnot 1), .int .u64 (wdI fnot 2), .int .u64 (wdI fnot 3)] 80)).alloc (.cells #[.int .i64 fs] 40))
          have HCN := cells_new (wr.alloc (.cells #[.int .i64 fs, .int .u64 (wdI fnot 0), .int .u64 (wdI fnot 1), .int .u64 (wdI fnot 2), .int .u64 (wdI fnot 3)] 80)) #[.int .i64 fs] 3
          rw [World.size_alloc] at HCN
          have HCN := Lib.hid HCN
          have hsum : k + 1 ≤ 1048576 := by omega
          have hw1 : w.heap.size + 1 ≤ wr.heap.size := hlK
          clear HFB HN HE
          go_wp2_with (first
            | (go_at_call 42; (with_reducible refine (HNf _).out.mono ?_); rintro e w3 ⟨rfl, rfl⟩)
            | (at_builtin; refine wpList_append_own _ rfl (.tmp 26) (.tmp 29) 40 rfl (w.heap.size + 1) 3 i0 (.int .i64 0) 1 8 Try.underlying40 hi hz0 hz1 hz2 rfl (by decide) _ _ _ rfl ((hO.out.alloc _).alloc _) ⟨wr.heap.size + 1, 0, none⟩ 1 1 [.int .i64 fs] rfl rfl HCN.out (by simp [Value.oneCell']) (by unfold maxLen; omega) (by omega) (by simp; omega) ?_; intro v5 w5 hown5 hgrow5 _))
          have hf5 := own_fin ((hO.out.alloc _).alloc _) (((Below.refl (w.heap.size + 1) wr).alloc hw1 _).alloc (by simp; omega) _) hw1 hgrow5
          have hO5 : Hid (w5.ownsRow (w.heap.size + 1) 3 1 v5 (k + 1) (cellsL intC ((g.follow.take (k + 1)).map (·.sort)))) := Lib.hid (by
            rw [HT.out, List.map_append, List.map_cons, List.map_nil, cellsL_snoc]; exact hown5)
          have hK5 := Lib.hid (hK.out.below hf5 (Nat.lt_succ_self _))
          have hB5 := Lib.hid (hB.out.trans (hf5.mono (Nat.le_succ _)))
          clear hf5 hown5 hgrow5 hO hK hB hA g0 c0 c1 c2 c3 c4
          rw [← hwa] at *
          go_wp2
          go_roundw
          case rel => exact ⟨k + 1, by go_num, by omega, hA2, hO5, hK5, hB5⟩
          case measure => simp [intOf]; omega
    · obtain rfl : k = n := by omega
      have HTk : g.follow.take k = g.follow := List.take_of_length_le (by rw [← HLn.out]; exact Nat.le_refl _)
      have hA2 := hA.out
      rw [HTk] at hA2
      have hO2 := hO.out
      rw [HTk] at hO2
      have hall : g.follow.all (folB g.sorts.length) = true := List.all_eq_true.2 hA2
      have hlen : k = (g.follow.map (·.sort)).length := by rw [List.length_map]; exact HLn.out
      have hI : ∀ x, x ∈ g.follow.map (·.sort) → I64 x := fun x hx => by
        obtain ⟨f, hf, rfl⟩ := List.mem_map.1 hx
        exact HF.out f hf
      have HR : Hid (followsB g = onceA (fun a b => a == b) [] (g.follow.map (·.sort))) := Lib.hid (by unfold followsB; rw [hall, Bool.true_and])
      obtain ⟨L, hL⟩ : ∃ L, L = g.follow.map (·.sort) := ⟨_, rfl⟩
      rw [← hL] at hlen hI HR hO2
      rw [hlen] at hO2
      obtain ⟨va, vc, rfl, hrow⟩ := own_row (cs := intC) (G := NoG) (fun _ => rfl) hO2 (fun _ _ => trivial)
      have HO := Lib.hid (onceInt_any va vc L wr hrow (by rw [← hlen]; omega) hI)
      clear hA hA2 hO hO2 hall HTk hrow hL hI
      generalize onceA (fun a b : Int => a == b) [] L = r at *
      clear hlen
      go_wp2_with fail
      with_reducible refine HO.out.mono ?_
      rintro e w3 ⟨rfl, hB3⟩
      have HB3 := Lib.hid (hB.out.trans (hB3.mono hB.out.size))
      clear hB3
      go_wp2
      go_ret
      exact ⟨by rw [HR.out]; try rfl, HB3.out⟩
end Go.Proofs.Ytiihdbchchnncaa
end
section
namespace Go.Proofs.Ytiihdbchchnncaa
open Go Go.RowKit

/-- Are two grammars the same, part by part? -/
def sameG (a b : GramM) : Bool := eqL strEq a.sorts b.sorts && (eqL prodEq a.prods b.prods && (a.start == b.start && (eqL forEq a.forbid b.forbid && eqL folEq a.follow b.follow)))

theorem cells5' {W : World} {B t : Nat} {a b c d e : Value} (h : Blk W B t #[a, b, c, d, e]) : W.cell? ⟨B, 0, none⟩ = some a ∧ W.cell? ⟨B, 1, none⟩ = some b ∧ W.cell? ⟨B, 2, none⟩ = some c ∧ W.cell? ⟨B, 3, none⟩ = some d ∧ W.cell? ⟨B, 4, none⟩ = some e :=
  ⟨h.cell 0, h.cell 1, h.cell 2, h.cell 3, h.cell 4⟩

set_option maxRecDepth 100000 in
set_option maxHeartbeats 4000000 in
theorem same_any (a b : GramM) (w : World) (ha : GIn w a) (hb : GIn w b) (fa : Fit a) (fb : Fit b) :
    Calls Try.prog 19 #[gramV a, gramV b] w fun e w' => e = .returned (.bool (sameG a b)) ∧ Below w.heap.size w w' := by
  have HB0 : Hid (Below w.heap.size w ((w.alloc (.cells (gramC a) 27)).alloc (.cells (gramC b) 27))) := Lib.hid (((Below.refl _ w).alloc (Nat.le_refl _) _).alloc (by simp) _)
  obtain ⟨r, hr⟩ : ∃ r, r = sameG a b := ⟨_, rfl⟩
  rw [← hr]
  unfold sameG at hr
  obtain ⟨t0, ht0⟩ : ∃ t, t = eqL strEq a.sorts b.sorts := ⟨_, rfl⟩
  obtain ⟨t1, ht1⟩ : ∃ t, t = eqL prodEq a.prods b.prods := ⟨_, rfl⟩
  obtain ⟨t3, ht3⟩ : ∃ t, t = eqL forEq a.forbid b.forbid := ⟨_, rfl⟩
  obtain ⟨t4, ht4⟩ : ∃ t, t = eqL folEq a.follow b.follow := ⟨_, rfl⟩
  have H0 : Hid (∀ W, Below w.heap.size w W → Calls Try.prog 43 #[.slice a.sa a.sorts.length a.sc, .slice b.sa b.sorts.length b.sc] W fun e w' => e = .returned (.bool t0) ∧ Below W.heap.size W w') := Lib.hid fun W hW => by rw [ht0]; exact equalStr_any _ _ _ _ _ _ W (ha.below hW).sorts (hb.below hW).sorts fa.sorts fb.sorts
  have H1 : Hid (∀ W, Below w.heap.size w W → Calls Try.prog 44 #[.slice a.pa a.prods.length a.pc, .slice b.pa b.prods.length b.pc, .func (.func 45) #[] #[]] W fun e w' => e = .returned (.bool t1) ∧ Below W.heap.size W w') := Lib.hid fun W hW => by rw [ht1]; exact equalProd_any _ _ _ _ _ _ W (ha.below hW).prods (hb.below hW).prods fa.prods fb.prods fa.right fb.right
  have H3 : Hid (∀ W, Below w.heap.size w W → Calls Try.prog 46 #[.slice a.fa a.forbid.length a.fc, .slice b.fa b.forbid.length b.fc] W fun e w' => e = .returned (.bool t3) ∧ Below W.heap.size W w') := Lib.hid fun W hW => by rw [ht3]; exact equalFor_any _ _ _ _ _ _ W (ha.below hW).forbid (hb.below hW).forbid fa.forbid fb.forbid
  have H4 : Hid (∀ W, Below w.heap.size w W → Calls Try.prog 47 #[.slice a.wa a.follow.length a.wc, .slice b.wa b.follow.length b.wc] W fun e w' => e = .returned (.bool t4) ∧ Below W.heap.size W w') := Lib.hid fun W hW => by rw [ht4]; exact equalFol_any _ _ _ _ _ _ W (ha.below hW).follow (hb.below hW).follow fa.follow fb.follow
  rw [← ht0, ← ht1, ← ht3, ← ht4] at hr
  have HR := Lib.hid hr
  clear hr ht0 ht1 ht3 ht4 ha hb fa fb
  unfold gramV gramC at *
  cases t0 with
  | false =>
    have HR2 : Hid (r = false) := Lib.hid (by rw [HR.out]; simp)
    clear HR
    go_enter Try.func19, Try.ntmps19
    go_wp2_with fail
    with_reducible refine (H0.out _ HB0.out).mono ?_
    rintro e w3 ⟨rfl, hB3⟩
    have HBx := Lib.hid (HB0.out.trans (hB3.mono HB0.out.size))
    obtain ⟨g0, g1⟩ := keep2 w _ _ hB3
    clear HB0
    obtain ⟨c00, c01, c02, c03, c04⟩ := cells5' g0
    obtain ⟨c10, c11, c12, c13, c14⟩ := cells5' g1
    have l0 := g0.lt
    have l1 := g1.lt
    have G0 := Lib.hid g0
    have G1 := Lib.hid g1
    clear hB3 g0 g1
    go_wp2
    go_ret
    exact ⟨by rw [HR2.out]; rfl, HBx.out⟩
  | true =>
    cases t1 with
    | false =>
      have HR2 : Hid (r = false) := Lib.hid (by rw [HR.out]; simp)
      clear HR
      go_enter Try.func19, Try.ntmps19
      go_wp2_with fail
      with_reducible refine (H0.out _ HB0.out).mono ?_
      rintro e w3 ⟨rfl, hB3⟩
      have HBx := Lib.hid (HB0.out.trans (hB3.mono HB0.out.size))
      obtain ⟨g0, g1⟩ := keep2 w _ _ hB3
      clear HB0
      obtain ⟨c00, c01, c02, c03, c04⟩ := cells5' g0
      obtain ⟨c10, c11, c12, c13, c14⟩ := cells5' g1
      have l0 := g0.lt
      have l1 := g1.lt
      have G0 := Lib.hid g0
      have G1 := Lib.hid g1
      clear hB3 g0 g1
      go_wp2_with fail
      with_reducible refine (H1.out _ HBx.out).mono ?_
      rintro e w3 ⟨rfl, hB3⟩
      have HBy := Lib.hid (HBx.out.trans (hB3.mono HBx.out.size))
      have k0 := G0.out.below hB3 G0.out.lt
      have k1 := G1.out.below hB3 G1.out.lt
      clear HBx G0 G1 c00 c01 c02 c03 c04 c10 c11 c12 c13 c14 l0 l1
      have HBx := HBy
      have g0 := k0
      have g1 := k1
      clear HBy k0 k1
      obtain ⟨c00, c01, c02, c03, c04⟩ := cells5' g0
      obtain ⟨c10, c11, c12, c13, c14⟩ := cells5' g1
      have l0 := g0.lt
      have l1 := g1.lt
      have G0 := Lib.hid g0
      have G1 := Lib.hid g1
      clear hB3 g0 g1
      go_wp2
      go_ret
      exact ⟨by rw [HR2.out]; rfl, HBx.out⟩
    | true =>
      cases t2 : (a.start == b.start) with
      | false =>
        have HR2 : Hid (r = false) := Lib.hid (by rw [HR.out, t2]; simp)
        clear HR
        go_enter Try.func19, Try.ntmps19
        go_wp2_with fail
        with_reducible refine (H0.out _ HB0.out).mono ?_
        rintro e w3 ⟨rfl, hB3⟩
        have HBx := Lib.hid (HB0.out.trans (hB3.mono HB0.out.size))
        obtain ⟨g0, g1⟩ := keep2 w _ _ hB3
        clear HB0
        obtain ⟨c00, c01, c02, c03, c04⟩ := cells5' g0
        obtain ⟨c10, c11, c12, c13, c14⟩ := cells5' g1
        have l0 := g0.lt
        have l1 := g1.lt
        have G0 := Lib.hid g0
        have G1 := Lib.hid g1
        clear hB3 g0 g1
        go_wp2_with fail
        with_reducible refine (H1.out _ HBx.out).mono ?_
        rintro e w3 ⟨rfl, hB3⟩
        have HBy := Lib.hid (HBx.out.trans (hB3.mono HBx.out.size))
        have k0 := G0.out.below hB3 G0.out.lt
        have k1 := G1.out.below hB3 G1.out.lt
        clear HBx G0 G1 c00 c01 c02 c03 c04 c10 c11 c12 c13 c14 l0 l1
        have HBx := HBy
        have g0 := k0
        have g1 := k1
        clear HBy k0 k1
        obtain ⟨c00, c01, c02, c03, c04⟩ := cells5' g0
        obtain ⟨c10, c11, c12, c13, c14⟩ := cells5' g1
        have l0 := g0.lt
        have l1 := g1.lt
        have G0 := Lib.hid g0
        have G1 := Lib.hid g1
        clear hB3 g0 g1
        go_wp2
        go_ret
        exact ⟨by rw [HR2.out]; rfl, HBx.out⟩
      | true =>
        cases t3 with
        | false =>
          have HR2 : Hid (r = false) := Lib.hid (by rw [HR.out, t2]; simp)
          clear HR
          go_enter Try.func19, Try.ntmps19
          go_wp2_with fail
          with_reducible refine (H0.out _ HB0.out).mono ?_
          rintro e w3 ⟨rfl, hB3⟩
          have HBx := Lib.hid (HB0.out.trans (hB3.mono HB0.out.size))
          obtain ⟨g0, g1⟩ := keep2 w _ _ hB3
          clear HB0
          obtain ⟨c00, c01, c02, c03, c04⟩ := cells5' g0
          obtain ⟨c10, c11, c12, c13, c14⟩ := cells5' g1
          have l0 := g0.lt
          have l1 := g1.lt
          have G0 := Lib.hid g0
          have G1 := Lib.hid g1
          clear hB3 g0 g1
          go_wp2_with fail
          with_reducible refine (H1.out _ HBx.out).mono ?_
          rintro e w3 ⟨rfl, hB3⟩
          have HBy := Lib.hid (HBx.out.trans (hB3.mono HBx.out.size))
          have k0 := G0.out.below hB3 G0.out.lt
          have k1 := G1.out.below hB3 G1.out.lt
          clear HBx G0 G1 c00 c01 c02 c03 c04 c10 c11 c12 c13 c14 l0 l1
          have HBx := HBy
          have g0 := k0
          have g1 := k1
          clear HBy k0 k1
          obtain ⟨c00, c01, c02, c03, c04⟩ := cells5' g0
          obtain ⟨c10, c11, c12, c13, c14⟩ := cells5' g1
          have l0 := g0.lt
          have l1 := g1.lt
          have G0 := Lib.hid g0
          have G1 := Lib.hid g1
          clear hB3 g0 g1
          go_wp2_with fail
          with_reducible refine (H3.out _ HBx.out).mono ?_
          rintro e w3 ⟨rfl, hB3⟩
          have HBy := Lib.hid (HBx.out.trans (hB3.mono HBx.out.size))
          have k0 := G0.out.below hB3 G0.out.lt
          have k1 := G1.out.below hB3 G1.out.lt
          clear HBx G0 G1 c00 c01 c02 c03 c04 c10 c11 c12 c13 c14 l0 l1
          have HBx := HBy
          have g0 := k0
          have g1 := k1
          clear HBy k0 k1
          obtain ⟨c00, c01, c02, c03, c04⟩ := cells5' g0
          obtain ⟨c10, c11, c12, c13, c14⟩ := cells5' g1
          have l0 := g0.lt
          have l1 := g1.lt
          have G0 := Lib.hid g0
          have G1 := Lib.hid g1
          clear hB3 g0 g1
          go_wp2
          go_ret
          exact ⟨by rw [HR2.out]; rfl, HBx.out⟩
        | true =>
          cases t4 with
          | false =>
            have HR2 : Hid (r = false) := Lib.hid (by rw [HR.out, t2]; simp)
            clear HR
            go_enter Try.func19, Try.ntmps19
            go_wp2_with fail
            with_reducible refine (H0.out _ HB0.out).mono ?_
            rintro e w3 ⟨rfl, hB3⟩
            have HBx := Lib.hid (HB0.out.trans (hB3.mono HB0.out.size))
            obtain ⟨g0, g1⟩ := keep2 w _ _ hB3
            clear HB0
            obtain ⟨c00, c01, c02, c03, c04⟩ := cells5' g0
            obtain ⟨c10, c11, c12, c13, c14⟩ := cells5' g1
            have l0 := g0.lt
            have l1 := g1.lt
            have G0 := Lib.hid g0
            have G1 := Lib.hid g1
            clear hB3 g0 g1
            go_wp2_with fail
            with_reducible refine (H1.out _ HBx.out).mono ?_
            rintro e w3 ⟨rfl, hB3⟩
            have HBy := Lib.hid (HBx.out.trans (hB3.mono HBx.out.size))
            have k0 := G0.out.below hB3 G0.out.lt
            have k1 := G1.out.below hB3 G1.out.lt
            clear HBx G0 G1 c00 c01 c02 c03 c04 c10 c11 c12 c13 c14 l0 l1
            have HBx := HBy
            have g0 := k0
            have g1 := k1
            clear HBy k0 k1
            obtain ⟨c00, c01, c02, c03, c04⟩ := cells5' g0
            obtain ⟨c10, c11, c12, c13, c14⟩ := cells5' g1
            have l0 := g0.lt
            have l1 := g1.lt
            have G0 := Lib.hid g0
            have G1 := Lib.hid g1
            clear hB3 g0 g1
            go_wp2_with fail
            with_reducible refine (H3.out _ HBx.out).mono ?_
            rintro e w3 ⟨rfl, hB3⟩
            have HBy := Lib.hid (HBx.out.trans (hB3.mono HBx.out.size))
            have k0 := G0.out.below hB3 G0.out.lt
            have k1 := G1.out.below hB3 G1.out.lt
            clear HBx G0 G1 c00 c01 c02 c03 c04 c10 c11 c12 c13 c14 l0 l1
            have HBx := HBy
            have g0 := k0
            have g1 := k1
            clear HBy k0 k1
            obtain ⟨c00, c01, c02, c03, c04⟩ := cells5' g0
            obtain ⟨c10, c11, c12, c13, c14⟩ := cells5' g1
            have l0 := g0.lt
            have l1 := g1.lt
            have G0 := Lib.hid g0
            have G1 := Lib.hid g1
            clear hB3 g0 g1
            go_wp2_with fail
            with_reducible refine (H4.out _ HBx.out).mono ?_
            rintro e w3 ⟨rfl, hB3⟩
            have HBy := Lib.hid (HBx.out.trans (hB3.mono HBx.out.size))
            have k0 := G0.out.below hB3 G0.out.lt
            have k1 := G1.out.below hB3 G1.out.lt
            clear HBx G0 G1 c00 c01 c02 c03 c04 c10 c11 c12 c13 c14 l0 l1
            have HBx := HBy
            have g0 := k0
            have g1 := k1
            clear HBy k0 k1
            obtain ⟨c00, c01, c02, c03, c04⟩ := cells5' g0
            obtain ⟨c10, c11, c12, c13, c14⟩ := cells5' g1
            have l0 := g0.lt
            have l1 := g1.lt
            have G0 := Lib.hid g0
            have G1 := Lib.hid g1
            clear hB3 g0 g1
            go_wp2
            go_ret
            exact ⟨by rw [HR2.out]; rfl, HBx.out⟩
          | true =>
            have HR2 : Hid (r = true) := Lib.hid (by rw [HR.out, t2]; simp)
            clear HR
            go_enter Try.func19, Try.ntmps19
            go_wp2_with fail
            with_reducible refine (H0.out _ HB0.out).mono ?_
            rintro e w3 ⟨rfl, hB3⟩
            have HBx := Lib.hid (HB0.out.trans (hB3.mono HB0.out.size))
            obtain ⟨g0, g1⟩ := keep2 w _ _ hB3
            clear HB0
            obtain ⟨c00, c01, c02, c03, c04⟩ := cells5' g0
            obtain ⟨c10, c11, c12, c13, c14⟩ := cells5' g1
            have l0 := g0.lt
            have l1 := g1.lt
            have G0 := Lib.hid g0
            have G1 := Lib.hid g1
            clear hB3 g0 g1
            go_wp2_with fail
            with_reducible refine (H1.out _ HBx.out).mono ?_
            rintro e w3 ⟨rfl, hB3⟩
            have HBy := Lib.hid (HBx.out.trans (hB3.mono HBx.out.size))
            have k0 := G0.out.below hB3 G0.out.lt
            have k1 := G1.out.below hB3 G1.out.lt
            clear HBx G0 G1 c00 c01 c02 c03 c04 c10 c11 c12 c13 c14 l0 l1
            have HBx := HBy
            have g0 := k0
            have g1 := k1
            clear HBy k0 k1
            obtain ⟨c00, c01, c02, c03, c04⟩ := cells5' g0
            obtain ⟨c10, c11, c12, c13, c14⟩ := cells5' g1
            have l0 := g0.lt
            have l1 := g1.lt
            have G0 := Lib.hid g0
            have G1 := Lib.hid g1
            clear hB3 g0 g1
            go_wp2_with fail
            with_reducible refine (H3.out _ HBx.out).mono ?_
            rintro e w3 ⟨rfl, hB3⟩
            have HBy := Lib.hid (HBx.out.trans (hB3.mono HBx.out.size))
            have k0 := G0.out.below hB3 G0.out.lt
            have k1 := G1.out.below hB3 G1.out.lt
            clear HBx G0 G1 c00 c01 c02 c03 c04 c10 c11 c12 c13 c14 l0 l1
            have HBx := HBy
            have g0 := k0
            have g1 := k1
            clear HBy k0 k1
            obtain ⟨c00, c01, c02, c03, c04⟩ := cells5' g0
            obtain ⟨c10, c11, c12, c13, c14⟩ := cells5' g1
            have l0 := g0.lt
            have l1 := g1.lt
            have G0 := Lib.hid g0
            have G1 := Lib.hid g1
            clear hB3 g0 g1
            go_wp2_with fail
            with_reducible refine (H4.out _ HBx.out).mono ?_
            rintro e w3 ⟨rfl, hB3⟩
            have HBy := Lib.hid (HBx.out.trans (hB3.mono HBx.out.size))
            have k0 := G0.out.below hB3 G0.out.lt
            have k1 := G1.out.below hB3 G1.out.lt
            clear HBx G0 G1 c00 c01 c02 c03 c04 c10 c11 c12 c13 c14 l0 l1
            have HBx := HBy
            have g0 := k0
            have g1 := k1
            clear HBy k0 k1
            obtain ⟨c00, c01, c02, c03, c04⟩ := cells5' g0
            obtain ⟨c10, c11, c12, c13, c14⟩ := cells5' g1
            have l0 := g0.lt
            have l1 := g1.lt
            have G0 := Lib.hid g0
            have G1 := Lib.hid g1
            clear hB3 g0 g1
            go_wp2
            go_ret
            exact ⟨by rw [HR2.out]; rfl, HBx.out⟩
end Go.Proofs.Ytiihdbchchnncaa
end
