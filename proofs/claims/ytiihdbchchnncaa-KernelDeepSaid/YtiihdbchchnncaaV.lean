import Derived.OrdersHeld
import Derived.Deep.RegionHeld3
namespace Go.Vals
open Go

/-- The values laid into an act's slots, one behind another. -/
def putL : Array Value → List (Option Tmp) → List Value → Array Value
  | s, some d :: ds, v :: vs => putL (s.setIfInBounds d v) ds vs
  | s, none :: ds, _ :: vs => putL s ds vs
  | s, _, _ => s

theorem putL_size : ∀ (ds : List (Option Tmp)) (vs : List Value) (s : Array Value), (putL s ds vs).size = s.size
  | [], _, _ => rfl
  | _ :: _, [], s => by unfold putL; split <;> simp_all
  | some d :: ds, v :: vs, s => by simp only [putL]; rw [putL_size ds vs]; simp
  | none :: ds, v :: vs, s => by simp only [putL]; rw [putL_size ds vs]

theorem putL_off {t : Tmp} : ∀ (ds : List (Option Tmp)) (vs : List Value) (s : Array Value), some t ∉ ds → (putL s ds vs)[t]? = s[t]?
  | [], _, _, _ => rfl
  | _ :: _, [], s, _ => by unfold putL; split <;> simp_all
  | some d :: ds, v :: vs, s, h => by
    simp only [putL]
    rw [putL_off ds vs _ (fun hm => h (List.mem_cons_of_mem _ hm)), Array.getElem?_setIfInBounds_ne (fun e => h (by subst e; simp))]
  | none :: ds, v :: vs, s, h => by
    simp only [putL]
    exact putL_off ds vs _ (fun hm => h (List.mem_cons_of_mem _ hm))

/-- What a region's slots hold: the loose ones meet p, the others are F's. -/
def Kn (F : Array Value) (loose : List Tmp) (p : Tmp → Value → World → Prop) (t : Tmp) (v : Value) (w : World) : Prop :=
  (t ∈ loose ∧ p t v w) ∨ (t ∉ loose ∧ F[t]? = some v)

def Knows (K : Tmp → Value → World → Prop) (l : List Tmp) (a : Act) (w : World) : Prop := ∀ t ∈ l, ∃ v, a.tmps[t]? = some v ∧ K t v w
def Puts (K : Tmp → Value → World → Prop) (o : Oper) (v : Value) (w : World) : Prop := ∀ d, o.dst = some d → K d v w

/-- What becomes of an operation: it gives a value of its kind, the worlds being related. -/
def Gives (P : Program) (N : World → World → Prop) (K : Tmp → Value → World → Prop) (o : Oper) (w : World) : Result Next → Prop
  | .ok (.value u) w' => N w w' ∧ Puts K o u w'
  | .ok (.enter f args) w' => Calls P f args w' fun e w'' => ∃ u, e = .returned u ∧ N w w'' ∧ Puts K o u w''
  | _ => False

def Does (P : Program) (ops : Array Oper) (N : World → World → Prop) (K : Tmp → Value → World → Prop) (o : Oper) (a : Act) (w : World) : Prop :=
  (Region.wanted o (yielded ops a.tmps) = false ∧ Puts K o undef w) ∨
  (Region.wanted o (yielded ops a.tmps) = true ∧ Gives P N K o w ((execOp a.eval o).run P w))

section
variable {P : Program} {ops : Array Oper} {Q : Exit → Act → World → Prop} {md : Region.Mode} {N : World → World → Prop} {K : Tmp → Value → World → Prop}

theorem Does.wpOp {i : Nat} {o : Oper} {a : Act} {w : World} (hi : ops[i]? = some o) (hr : N w w) (h : Does P ops N K o a w)
    {R : Act → World → Prop} (hR : ∀ u w', N w w' → Puts K o u w' → R (a.put o.dst u) w') : wpOp P ops Q i R a w := by
  unfold Go.wpOp
  simp only [hi]
  rcases h with ⟨hw, hp⟩ | ⟨hw, hg⟩
  · simp only [hw, Bool.false_eq_true, if_false]; exact hR _ _ hr hp
  · simp only [hw, if_true]
    refine .inl ?_
    unfold Oper.wp
    generalize (execOp a.eval o).run P w = r at hg
    unfold Gives at hg
    split at hg
    · exact hR _ _ hg.1 hg.2
    · refine Calls.mono hg fun e w'' he => ?_
      obtain ⟨u, rfl, h1, h2⟩ := he
      exact hR _ _ h1 h2
    · exact hg.elim

/-- The region's own conditions: every edge goes back; every slot is written once; what is looked at is waited for. -/
def ck (md : Region.Mode) (ops : Array Oper) (loose : List Tmp) : Bool :=
  Region.noSelect ops && (List.range ops.size).all fun j => match ops[j]? with
    | none => true
    | some o =>
      (o.after.all fun e => decide (e.on < j)) &&
      (List.range ops.size).all fun i => match ops[i]? with
        | none => true
        | some x => match x.dst with
          | none => true
          | some d => (i == j || o.dst != some d) && (!((o.looksAt ops).contains d) || o.after.any fun e => Region.binds md e && e.on == i)

theorem ck_spec {loose : List Tmp} (h : ck md ops loose = true) :
    (∀ (j : Nat) (o : Oper) cs b, ops[j]? = some o → o.op ≠ .select cs b) ∧
    (∀ (j : Nat) (o : Oper), ops[j]? = some o → ∀ e ∈ o.after, e.on < j) ∧
    (∀ (j : Nat) (o : Oper) (i : Nat) (x : Oper) (d : Tmp), ops[j]? = some o → ops[i]? = some x → x.dst = some d → i ≠ j → o.dst ≠ some d) ∧
    (∀ (j : Nat) (o : Oper) (i : Nat) (x : Oper) (d : Tmp), ops[j]? = some o → ops[i]? = some x → x.dst = some d → d ∈ o.looksAt ops → ∃ e ∈ o.after, Region.binds md e = true ∧ e.on = i) := by
  unfold ck at h
  rw [Bool.and_eq_true] at h
  obtain ⟨hs, h⟩ := h
  rw [List.all_eq_true] at h
  have hj : ∀ (j : Nat) (o : Oper), ops[j]? = some o → (∀ e ∈ o.after, e.on < j) ∧ ∀ (i : Nat) (x : Oper) (d : Tmp), ops[i]? = some x → x.dst = some d → (i ≠ j → o.dst ≠ some d) ∧ (d ∈ o.looksAt ops → ∃ e ∈ o.after, Region.binds md e = true ∧ e.on = i) := by
    intro j o ho
    have hlt : j < ops.size := (Array.getElem?_eq_some_iff.1 ho).1
    have := h j (by simpa using hlt)
    simp only [ho, Bool.and_eq_true] at this
    obtain ⟨h1, h2⟩ := this
    refine ⟨fun e he => by simpa using (Array.all_eq_true_iff_forall_mem.1 h1) e he, fun i x d hi hx => ?_⟩
    have hlt' : i < ops.size := (Array.getElem?_eq_some_iff.1 hi).1
    rw [List.all_eq_true] at h2
    have := h2 i (by simpa using hlt')
    simp only [hi, hx, Bool.and_eq_true, Bool.or_eq_true] at this
    obtain ⟨h3, h4⟩ := this
    refine ⟨fun hne => ?_, fun hm => ?_⟩
    · rcases h3 with h3 | h3
      · exact absurd (by simpa using h3) hne
      · simpa using h3
    · rcases h4 with h4 | h4
      · simp [hm] at h4
      · rw [Array.any_eq_true'] at h4
        obtain ⟨e, he, h5⟩ := h4
        rw [Bool.and_eq_true] at h5
        exact ⟨e, he, h5.1, by simpa using h5.2⟩
  exact ⟨Region.noSelect_spec hs, fun j o ho => (hj j o ho).1, fun j o i x d ho hi hx => ((hj j o ho).2 i x d hi hx).1, fun j o i x d ho hi hx => ((hj j o ho).2 i x d hi hx).2⟩

/-- No operation that has not come up writes t. -/
def Settled (ops : Array Oper) (listed : Array Bool) (t : Tmp) : Prop := ∀ (j : Nat) (o : Oper), ops[j]? = some o → o.dst = some t → listed.getD j true = true

def left (ops : Array Oper) (listed : Array Bool) : Nat := (List.range ops.size).countP fun j => !listed.getD j true

theorem countP_lt {α : Type} {p q : α → Bool} : ∀ {l : List α} {x : α}, (∀ y ∈ l, q y = true → p y = true) → x ∈ l → p x = true → q x = false → l.countP q < l.countP p
  | [], _, _, hx, _, _ => by cases hx
  | y :: l, x, h, hx, hp, hq => by
    have hle : l.countP q ≤ l.countP p := List.countP_mono_left fun z hz => h z (List.mem_cons_of_mem _ hz)
    rcases List.mem_cons.1 hx with rfl | hx
    · rw [List.countP_cons_of_pos hp, List.countP_cons_of_neg (by simp [hq])]; omega
    · have ih := countP_lt (fun z hz => h z (List.mem_cons_of_mem _ hz)) hx hp hq
      have h0 := h y List.mem_cons_self
      rw [List.countP_cons, List.countP_cons]
      cases hqy : q y
      · simp; omega
      · simp [h0 hqy]; exact ih

theorem listed_all {listed : Array Bool} (hlt : ∀ (j : Nat) (o : Oper), ops[j]? = some o → ∀ e ∈ o.after, e.on < j) (hsz : listed.size = ops.size)
    (hr : Region.ready md ops listed = []) : ∀ (j : Nat) (o : Oper), ops[j]? = some o → listed.getD j true = true := by
  intro j
  induction j using Nat.strongRecOn with
  | _ j ih =>
    intro o ho
    cases hl : listed.getD j true with
    | true => rfl
    | false =>
      have : j ∈ Region.ready md ops listed := by
        rw [mem_ready]
        refine ⟨hl, o, ho, fun e he _ => ?_⟩
        have h1 := hlt j o ho e he
        have hj : j < ops.size := (Array.getElem?_eq_some_iff.1 ho).1
        have hs : e.on < ops.size := by omega
        have := ih e.on h1 ops[e.on] (by simp [hs])
        have hs' : e.on < listed.size := by omega
        simpa [hs'] using this
      rw [hr] at this
      cases this

theorem wpAny_vals {S : World → Prop} (hsel : ∀ (j : Nat) (o : Oper) cs b, ops[j]? = some o → o.op ≠ .select cs b)
    (hlt : ∀ (j : Nat) (o : Oper), ops[j]? = some o → ∀ e ∈ o.after, e.on < j)
    (hone : ∀ (j : Nat) (o : Oper) (i : Nat) (x : Oper) (d : Tmp), ops[j]? = some o → ops[i]? = some x → x.dst = some d → i ≠ j → o.dst ≠ some d)
    (hlook : ∀ (j : Nat) (o : Oper) (i : Nat) (x : Oper) (d : Tmp), ops[j]? = some o → ops[i]? = some x → x.dst = some d → d ∈ o.looksAt ops → ∃ e ∈ o.after, Region.binds md e = true ∧ e.on = i)
    (n : Nat) (ds : List Deferred) (hin : ∀ (j : Nat) (o : Oper), ops[j]? = some o → (∀ d, o.dst = some d → d < n) ∧ ∀ t ∈ o.looksAt ops, t < n)
    (hN : ∀ w, N w w) (hSN : ∀ w w', S w → N w w' → S w') (hKN : ∀ t v w w', K t v w → N w w' → K t v w')
    (hall : ∀ (j : Nat) (o : Oper), ops[j]? = some o → ∀ a w, a.defers = ds → S w → Knows K (o.looksAt ops) a w → Does P ops N K o a w)
    (hQ : ∀ a w, a.tmps.size = n → a.defers = ds → S w → (∀ t < n, ∃ v, a.tmps[t]? = some v ∧ K t v w) → Q .normal a w) :
    ∀ (fuel : Nat) (listed : Array Bool) (a : Act) (w : World), listed.size = ops.size → left ops listed ≤ fuel → a.tmps.size = n → a.defers = ds → S w →
      (∀ t < n, Settled ops listed t → ∃ v, a.tmps[t]? = some v ∧ K t v w) → wpAny P md ops Q fuel listed a w := by
  intro fuel
  have fin : ∀ (listed : Array Bool) (a : Act) (w : World), listed.size = ops.size → a.tmps.size = n → a.defers = ds → S w →
      (∀ t < n, Settled ops listed t → ∃ v, a.tmps[t]? = some v ∧ K t v w) → Region.ready md ops listed = [] → Q .normal a w := by
    intro listed a w hsz hn hd hS hk hr
    have hl := listed_all hlt hsz hr
    exact hQ a w hn hd hS fun t ht => hk t ht fun j o ho _ => hl j o ho
  induction fuel with
  | zero =>
    intro listed a w hsz hleft hn hd hS hk
    have hr : Region.ready md ops listed = [] := by
      rw [List.eq_nil_iff_forall_not_mem]
      intro j hj
      obtain ⟨h0, o, ho, _⟩ := mem_ready.1 hj
      have hlt' : j < ops.size := (Array.getElem?_eq_some_iff.1 ho).1
      have : 0 < left ops listed := List.countP_pos_iff.2 ⟨j, by simpa using hlt', by simp [h0]⟩
      omega
    exact ⟨hr, fin listed a w hsz hn hd hS hk hr⟩
  | succ fuel ih =>
    intro listed a w hsz hleft hn hd hS hk
    refine ⟨fun hr => fin listed a w hsz hn hd hS hk hr, fun i hi => ?_⟩
    obtain ⟨h0, o, ho, hdep⟩ := mem_ready.1 hi
    have hilt : i < ops.size := (Array.getElem?_eq_some_iff.1 ho).1
    have hknow : Knows K (o.looksAt ops) a w := by
      intro t ht
      refine hk t ((hin i o ho).2 t ht) fun j x hx hxd => ?_
      obtain ⟨e, he, hb, rfl⟩ := hlook i o j x t ho hx hxd ht
      have h1 := hdep e he hb
      have hj : e.on < ops.size := (Array.getElem?_eq_some_iff.1 hx).1
      have hj' : e.on < listed.size := by omega
      simpa [hj'] using h1
    refine (hall i o ho a w hd hS hknow).wpOp ho (hN w) fun u w' hw' hp => ?_
    refine ih _ _ _ (by simpa using hsz) ?_ ?_ ?_ (hSN _ _ hS hw') ?_
    · have : left ops (listed.setIfInBounds i true) < left ops listed := by
        refine countP_lt (x := i) (fun j _ hj => ?_) (by simpa using hilt) (by simp [h0]) (by simp [hsz, hilt])
        by_cases hij : i = j
        · subst hij; simp [hsz, hilt] at hj
        · rw [getD_set_ne true hij] at hj; exact hj
      omega
    · unfold Act.put; split <;> simp [hn]
    · unfold Act.put; split <;> exact hd
    · intro t ht hset
      by_cases hdt : o.dst = some t
      · refine ⟨u, ?_, hp t hdt⟩
        have : t < a.tmps.size := by omega
        simp [Act.put, hdt, this]
      · have hset' : Settled ops listed t := by
          intro j x hx hxd
          by_cases hij : i = j
          · subst hij; rw [ho] at hx; cases hx; exact absurd hxd hdt
          · rw [← getD_set_ne true hij]; exact hset j x hx hxd
        obtain ⟨v, hv, hK⟩ := hk t ht hset'
        refine ⟨v, ?_, hKN _ _ _ _ hK hw'⟩
        cases hod : o.dst with
        | none => simpa [Act.put] using hv
        | some d =>
          have : d ≠ t := fun e => hdt (by rw [hod, e])
          simp only [Act.put]
          rw [Array.getElem?_setIfInBounds_ne this]; exact hv

/-- Slots below n. -/
def below (ops : Array Oper) (n : Nat) : Bool :=
  (List.range ops.size).all fun j => match ops[j]? with
    | none => true
    | some o => (match o.dst with | some d => decide (d < n) | none => true) && (o.looksAt ops).all fun t => decide (t < n)

theorem below_spec {n : Nat} (h : below ops n = true) : ∀ (j : Nat) (o : Oper), ops[j]? = some o → (∀ d, o.dst = some d → d < n) ∧ ∀ t ∈ o.looksAt ops, t < n := by
  intro j o ho
  unfold below at h
  rw [List.all_eq_true] at h
  have hlt : j < ops.size := (Array.getElem?_eq_some_iff.1 ho).1
  have := h j (by simpa using hlt)
  simp only [ho, Bool.and_eq_true] at this
  refine ⟨fun d hd => ?_, fun t ht => ?_⟩
  · have h1 := this.1
    simp only [hd] at h1
    simpa using h1
  · simpa using (List.all_eq_true.1 this.2) t ht

/-- The obligations, one for each operation. -/
def Each (P : Program) (ops : Array Oper) (N : World → World → Prop) (K : Tmp → Value → World → Prop) (S : World → Prop) (ds : List Deferred) : List Oper → Prop
  | [] => True
  | o :: l => (∀ a w, a.defers = ds → S w → Knows K (o.looksAt ops) a w → Does P ops N K o a w) ∧ Each P ops N K S ds l

theorem Each.get {S : World → Prop} {ds : List Deferred} : ∀ {l : List Oper}, Each P ops N K S ds l → ∀ (j : Nat) (o : Oper), l[j]? = some o → ∀ a w, a.defers = ds → S w → Knows K (o.looksAt ops) a w → Does P ops N K o a w
  | [], _, j, o, h => by simp at h
  | x :: l, hE, 0, o, h => by simp at h; subst h; exact hE.1
  | x :: l, hE, j + 1, o, h => by simp at h; exact hE.2.get j o h

theorem left_start : left ops (Array.replicate ops.size false) ≤ ops.size := by
  unfold left
  exact Nat.le_trans List.countP_le_length (by simp)

/-- **A region that draws its order, by the values that its slots hold behind it.** F: every slot's value (the loose ones' are of no account); vs: the operations' values in their text's order. -/
theorem wp_region_vals {id : Nat} {a : Act} {w : World} {S : World → Prop} (loose : List Tmp) (p : Tmp → Value → World → Prop) (vs : List Value) (F : Array Value)
    (hm : P.follows .mixedOrders = true) (hck : ck .any ops loose = true) (hb : below ops a.tmps.size = true)
    (hF : putL a.tmps (ops.toList.map (·.dst)) vs = F)
    (hl : (loose.all fun t => ops.toList.any fun o => o.dst == some t) = true)
    (hN : ∀ w, N w w) (hS : S w.drew) (hSN : ∀ w w', S w → N w w' → S w')
    (hpN : ∀ t ∈ loose, ∀ v w w', p t v w → N w w' → p t v w')
    (hall : Each P ops N (Kn F loose p) S a.defers ops.toList)
    (hQ : ∀ T w', T.size = F.size → S w' → (∀ t < F.size, ∃ v, T[t]? = some v ∧ Kn F loose p t v w') → Q .normal { a with tmps := T } w') : (Code.region id ops true).wp P Q a w := by
  obtain ⟨h1, h2, h3, h4⟩ := ck_spec hck
  have hFs : F.size = a.tmps.size := by rw [← hF, putL_size]
  refine wp_region_any hm (wpAny_vals (K := Kn F loose p) (N := N) (S := S) h1 h2 h3 h4 a.tmps.size a.defers (below_spec hb) hN hSN ?_ ?_ ?_ ops.size _ a _ (by simp) left_start rfl rfl hS ?_)
  · rintro t v w w' (⟨hm, hp⟩ | ⟨hm, hp⟩) hw
    · exact .inl ⟨hm, hpN t hm v w w' hp hw⟩
    · exact .inr ⟨hm, hp⟩
  · intro j o ho a' w' hd hS' hK
    exact hall.get j o (by simpa using ho) a' w' hd hS' hK
  · intro a' w' hn hd hS' hk
    have := hQ a'.tmps w' (by rw [hn, hFs]) hS' (by rw [hFs]; exact hk)
    rw [← hd] at this
    exact this
  · intro t ht hset
    have hnd : some t ∉ ops.toList.map (·.dst) := by
      intro hm
      obtain ⟨o, ho, hod⟩ := List.mem_map.1 hm
      obtain ⟨j, hj⟩ := List.mem_iff_getElem?.1 ho
      have hj' : ops[j]? = some o := by simpa using hj
      have h5 := hset j o hj' hod
      have hlt : j < ops.size := (Array.getElem?_eq_some_iff.1 hj').1
      simp [hlt] at h5
    refine ⟨a.tmps[t], by simp [ht], .inr ⟨fun hm => ?_, ?_⟩⟩
    · rw [List.all_eq_true] at hl
      have := hl t hm
      rw [List.any_eq_true] at this
      obtain ⟨o, ho, hod⟩ := this
      exact hnd (List.mem_map.2 ⟨o, ho, by simpa using hod⟩)
    · rw [← hF, putL_off _ _ _ hnd]; simp [ht]

/-- None loose: the act behind the region is known whole. -/
theorem wp_region_vals0 {id : Nat} {a : Act} {w : World} {S : World → Prop} (vs : List Value) (F : Array Value)
    (hm : P.follows .mixedOrders = true) (hck : ck .any ops [] = true) (hb : below ops a.tmps.size = true)
    (hF : putL a.tmps (ops.toList.map (·.dst)) vs = F)
    (hN : ∀ w, N w w) (hS : S w.drew) (hSN : ∀ w w', S w → N w w' → S w')
    (hall : Each P ops N (Kn F [] fun _ _ _ => False) S a.defers ops.toList)
    (hQ : ∀ w', S w' → Q .normal { a with tmps := F } w') : (Code.region id ops true).wp P Q a w := by
  refine wp_region_vals [] (fun _ _ _ => False) vs F hm hck hb hF rfl hN hS hSN (by simp) hall fun T w' hT hS' hk => ?_
  have : T = F := by
    apply Array.ext hT
    intro i h1 h2
    obtain ⟨v, hv, hK⟩ := hk i h2
    rcases hK with ⟨h, _⟩ | ⟨_, hK⟩
    · cases h
    · rw [← hK] at hv; simpa [h1, h2] using hv
  subst this
  exact hQ w' hS'

/-! ### The obligations' moves -/

/-- The operation looks at no loose slot: it is as at F. -/
theorem does_at {F : Array Value} {loose : List Tmp} {p : Tmp → Value → World → Prop} {o : Oper} {a : Act} {w : World} (hs : ∀ cs b, o.op ≠ .select cs b)
    (hl : (o.looksAt ops).all (fun t => !loose.contains t) = true) (hk : Knows (Kn F loose p) (o.looksAt ops) a w)
    (h : Does P ops N (Kn F loose p) o { a with tmps := F } w) : Does P ops N (Kn F loose p) o a w := by
  have hsame : ∀ t ∈ o.looksAt ops, a.tmps[t]? = F[t]? := by
    intro t ht
    obtain ⟨v, hv, hK⟩ := hk t ht
    have h1 := (List.all_eq_true.1 hl) t ht
    rcases hK with ⟨hm, _⟩ | ⟨_, hK⟩
    · simp [hm] at h1
    · rw [hv, hK]
  have he : execOp a.eval o = execOp ({ a with tmps := F } : Act).eval o := by
    refine execOp_congr o hs fun x hx => ?_
    cases x with
    | tmp t =>
      have ht : t ∈ o.looksAt ops := List.mem_append_left _ (List.mem_filterMap.2 ⟨.tmp t, by simpa using hx, rfl⟩)
      have := hsame t ht
      simp [Act.eval, this]
    | _ => rfl
  have hw : Region.wanted o (yielded ops a.tmps) = Region.wanted o (yielded ops F) := by
    unfold Region.wanted
    cases hg : o.guard with
    | none => rfl
    | some gw =>
      obtain ⟨g, want⟩ := gw
      have hy : yielded ops a.tmps g = yielded ops F g := by
        unfold yielded
        cases ht : (ops[g]?).bind (·.dst) with
        | none => rfl
        | some t =>
          have := hsame t (by simp [Oper.looksAt, hg, ht])
          simp [this]
      simp only [hy]
  unfold Does at *
  rw [he, hw]
  exact h

theorem puts_at {F : Array Value} {loose : List Tmp} {p : Tmp → Value → World → Prop} {o : Oper} {w : World} {d : Tmp} {v : Value} (hd : o.dst = some d) (hn : loose.contains d = false) (hv : F[d]? = some v) : Puts (Kn F loose p) o v w := by
  intro d' hd'
  rw [hd] at hd'
  cases hd'
  exact .inr ⟨by simpa using hn, hv⟩

def noSel (o : Oper) : Bool := match o.op with | .select .. => false | _ => true
theorem noSel_spec {o : Oper} (h : noSel o = true) : ∀ cs b, o.op ≠ .select cs b := by
  intro cs b e
  simp [noSel, e] at h

section
variable {F : Array Value} {loose : List Tmp} {p : Tmp → Value → World → Prop} {S : World → Prop} {o : Oper} {ds : List Deferred} {l : List Oper} {d : Tmp} {v : Value}

/-- The operation's own conditions, as one Bool: no select; it looks at no loose slot and writes none. -/
def own (ops : Array Oper) (loose : List Tmp) (o : Oper) (d : Tmp) : Bool := noSel o && (o.looksAt ops).all (fun t => !loose.contains t) && (o.dst == some d) && !loose.contains d
theorem own_spec (h : own ops loose o d = true) : (∀ cs b, o.op ≠ .select cs b) ∧ (o.looksAt ops).all (fun t => !loose.contains t) = true ∧ o.dst = some d ∧ loose.contains d = false := by
  unfold own at h
  simp only [Bool.and_eq_true] at h
  exact ⟨noSel_spec h.1.1.1, h.1.1.2, by simpa using h.1.2, by simpa using h.2⟩

/-- It gives v and leaves the world. -/
theorem Each.val (d : Tmp) (v : Value) (ho : own ops loose o d = true) (hw : Region.wanted o (yielded ops F) = true) (hv : F[d]? = some v) (hN : ∀ w, N w w)
    (he : ∀ w, S w → ∀ ds, (execOp (Act.eval ⟨F, ds⟩) o).run P w = .ok (.value v) w) (hr : Each P ops N (Kn F loose p) S ds l) : Each P ops N (Kn F loose p) S ds (o :: l) :=
  have h := own_spec ho
  ⟨fun a w _ hS hk => does_at h.1 h.2.1 hk (.inr ⟨hw, by
    have := he w hS a.defers
    show Gives P N _ o w ((execOp (Act.eval ⟨F, a.defers⟩) o).run P w)
    rw [this]; exact ⟨hN w, puts_at h.2.2.1 h.2.2.2 hv⟩⟩), hr⟩
/-- It is not wanted. -/
theorem Each.off (d : Tmp) (ho : own ops loose o d = true) (hw : Region.wanted o (yielded ops F) = false) (hv : F[d]? = some undef)
    (hr : Each P ops N (Kn F loose p) S ds l) : Each P ops N (Kn F loose p) S ds (o :: l) :=
  have h := own_spec ho
  ⟨fun a w _ hS hk => does_at h.1 h.2.1 hk (.inl ⟨hw, puts_at h.2.2.1 h.2.2.2 hv⟩), hr⟩
/-- It calls. -/
theorem Each.call (d : Tmp) (v : Value) (f : FuncId) (args : Array Value) (ho : own ops loose o d = true) (hw : Region.wanted o (yielded ops F) = true) (hv : F[d]? = some v)
    (he : ∀ w, ∀ ds, (execOp (Act.eval ⟨F, ds⟩) o).run P w = .ok (.enter f args) w) (hc : ∀ w, S w → Calls P f args w fun e w' => e = .returned v ∧ N w w')
    (hr : Each P ops N (Kn F loose p) S ds l) : Each P ops N (Kn F loose p) S ds (o :: l) :=
  have h := own_spec ho
  ⟨fun a w _ hS hk => does_at h.1 h.2.1 hk (.inr ⟨hw, by
    have := he w a.defers
    show Gives P N _ o w ((execOp (Act.eval ⟨F, a.defers⟩) o).run P w)
    rw [this]; exact (hc w hS).mono fun e w' hh => ⟨v, hh.1, hh.2, puts_at h.2.2.1 h.2.2.2 hv⟩⟩), hr⟩
/-- It makes something new, in a loose slot. -/
theorem Each.makes (d : Tmp) (hs : noSel o = true) (hl : (o.looksAt ops).all (fun t => !loose.contains t) = true) (hd : o.dst = some d) (hm : loose.contains d = true) (hw : Region.wanted o (yielded ops F) = true)
    (he : ∀ w, S w → ∀ ds, ∃ v w', (execOp (Act.eval ⟨F, ds⟩) o).run P w = .ok (.value v) w' ∧ N w w' ∧ p d v w') (hr : Each P ops N (Kn F loose p) S ds l) : Each P ops N (Kn F loose p) S ds (o :: l) :=
  ⟨fun a w _ hS hk => does_at (noSel_spec hs) hl hk (.inr ⟨hw, by
    obtain ⟨v, w', this, h1, h2⟩ := he w hS a.defers
    show Gives P N _ o w ((execOp (Act.eval ⟨F, a.defers⟩) o).run P w)
    rw [this]; exact ⟨h1, fun d' hd' => by rw [hd] at hd'; cases hd'; exact .inl ⟨by simpa using hm, h2⟩⟩⟩), hr⟩
/-- The guard's slot is among l. -/
def guardIn (ops : Array Oper) (o : Oper) (l : List Tmp) : Bool := match o.guard with
  | some (g, _) => match (ops[g]?).bind (·.dst) with | some d => l.contains d | none => true
  | none => true
theorem wanted_same {l : List Tmp} {T : Array Value} (h : guardIn ops o l = true) (hT : ∀ t ∈ l, T[t]? = F[t]?) : Region.wanted o (yielded ops T) = Region.wanted o (yielded ops F) := by
  unfold Region.wanted guardIn at *
  cases hg : o.guard with
  | none => rfl
  | some gw =>
    obtain ⟨g, want⟩ := gw
    have hy : yielded ops T g = yielded ops F g := by
      unfold yielded
      cases ht : (ops[g]?).bind (·.dst) with
      | none => rfl
      | some t =>
        simp only [hg, ht] at h
        have := hT t (by simpa using h)
        simp [this]
    simp only [hy]
/-- A call whose argument is a loose slot. -/
theorem Each.callLoose (d t : Tmp) (v : Value) (f : FuncId) (hd : o.dst = some d) (hm : loose.contains d = false) (hl : o.looksAt ops = t :: (o.looksAt ops).tail) (hlo : loose.contains t = true)
    (hw : Region.wanted o (yielded ops F) = true) (hg : guardIn ops o (o.looksAt ops).tail = true) (hgl : (o.looksAt ops).tail.all (fun t => !loose.contains t) = true) (hv : F[d]? = some v)
    (he : ∀ w a, (execOp (Act.eval a) o).run P w = .ok (.enter f #[a.eval (.tmp t)]) w) (hc : ∀ w x, S w → p t x w → Calls P f #[x] w fun e w' => e = .returned v ∧ N w w')
    (hr : Each P ops N (Kn F loose p) S ds l) : Each P ops N (Kn F loose p) S ds (o :: l) := by
  refine ⟨fun a w _ hS hk => .inr ⟨(wanted_same hg fun t ht => ?_).trans hw, ?_⟩, hr⟩
  · obtain ⟨x, hx, hK⟩ := hk t (by rw [hl]; exact List.mem_cons_of_mem _ ht)
    have h1 := (List.all_eq_true.1 hgl) t ht
    rcases hK with ⟨hm, _⟩ | ⟨_, hK⟩
    · simp [hm] at h1
    · rw [hx, hK]
  · obtain ⟨x, hx, hK⟩ := hk t (by rw [hl]; exact List.mem_cons_self)
    have hp : p t x w := by
      rcases hK with ⟨_, h⟩ | ⟨h, _⟩
      · exact h
      · exact absurd (by simpa using hlo) h
    rw [he, show a.eval (.tmp t) = x by simp [Act.eval, hx]]
    exact (hc w x hS hp).mono fun e w' hh => ⟨v, hh.1, hh.2, puts_at hd hm hv⟩
end
end
end Go.Vals
