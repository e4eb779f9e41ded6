import Derived.StillTail
import Derived.OrdersIn
namespace Go.Proofs.Ytmlkeddiagmedaa
open Go

/-! A region that draws its order, within a fence: its first operations, in whatever order they come, yield what they yield, as long as the world stays one of S. -/

section
variable {F : Fence} {n : Nat} {P : Program} {ops : Array Oper} {Q : Exit → Act → World → Prop} {md : Region.Mode}

def dstOf (ops : Array Oper) (i : Nat) : Option Tmp := (ops[i]?).bind (·.dst)

/-- Behind the first k operations, in the text's order. -/
def fillTo (ops : Array Oper) (vals : Nat → Value) (a0 : Act) : Nat → Act
  | 0 => a0
  | k + 1 => (fillTo ops vals a0 k).put (dstOf ops k) (vals k)

/-- What has come up of the first N operations lies in its slot. -/
structure HeldAct (ops : Array Oper) (N : Nat) (vals : Nat → Value) (a0 : Act) (L : Nat → Prop) (a : Act) : Prop where
  size : a.tmps.size = a0.tmps.size
  defers : a.defers = a0.defers
  done : ∀ j d, j < N → dstOf ops j = some d → L j → a.tmps[d]? = some (vals j)
  other : ∀ s, (∀ j, j < N → L j → dstOf ops j ≠ some s) → a.tmps[s]? = a0.tmps[s]?

theorem HeldAct.start {N : Nat} {vals : Nat → Value} {a0 : Act} {L : Nat → Prop} (h : ∀ j, j < N → ¬ L j) : HeldAct ops N vals a0 L a0 :=
  ⟨rfl, rfl, fun j _ hj _ hl => absurd hl (h j hj), fun _ _ => rfl⟩

theorem HeldAct.put {N i : Nat} {vals : Nat → Value} {a0 a : Act} {L L' : Nat → Prop} (h : HeldAct ops N vals a0 L a) (hi : i < N) {d : Nat} (hd : dstOf ops i = some d) (hlt : d < a0.tmps.size)
    (hinj : ∀ i j, i < N → j < N → dstOf ops i = dstOf ops j → i = j) (hL : ∀ j, j < N → (L' j ↔ L j ∨ j = i)) : HeldAct ops N vals a0 L' (a.put (dstOf ops i) (vals i)) := by
  rw [hd]
  refine ⟨by simp [Act.put, h.size], by simp [Act.put, h.defers], fun j e hj he hl => ?_, fun s hs => ?_⟩
  · by_cases hij : j = i
    · subst hij
      rw [hd] at he; cases he
      simp only [Act.put]
      rw [Array.getElem?_setIfInBounds_self_of_lt (by rw [h.size]; exact hlt)]
    · have hne : d ≠ e := fun hde => hij (hinj j i hj hi (by rw [he, hd, hde]))
      simp only [Act.put]
      rw [Array.getElem?_setIfInBounds_ne hne]
      exact h.done j e hj he (((hL j hj).1 hl).resolve_right hij)
  · have hne : d ≠ s := fun hde => hs i hi ((hL i hi).2 (.inr rfl)) (by rw [hd, hde])
    simp only [Act.put]
    rw [Array.getElem?_setIfInBounds_ne hne]
    exact h.other s fun j hj hl => hs j hj ((hL j hj).2 (.inl hl))

theorem HeldAct.same {N : Nat} {vals : Nat → Value} {a0 a b : Act} {L L' : Nat → Prop} (h : HeldAct ops N vals a0 L a) (k : HeldAct ops N vals a0 L' b) (hL : ∀ j, j < N → (L j ↔ L' j)) : a = b := by
  have ht : a.tmps = b.tmps := by
    refine Array.ext_getElem? fun s => ?_
    by_cases hs : ∃ j, j < N ∧ L j ∧ dstOf ops j = some s
    · obtain ⟨j, hj, hl, hd⟩ := hs
      rw [h.done j s hj hd hl, k.done j s hj hd ((hL j hj).1 hl)]
    · rw [h.other s fun j hj hl hd => hs ⟨j, hj, hl, hd⟩, k.other s fun j hj hl hd => hs ⟨j, hj, (hL j hj).2 hl, hd⟩]
  have hd : a.defers = b.defers := h.defers.trans k.defers.symm
  cases a; cases b; simp_all

theorem fillTo_held {N : Nat} {vals : Nat → Value} {a0 : Act} (hdst : ∀ i, i < N → ∃ d, dstOf ops i = some d ∧ d < a0.tmps.size)
    (hinj : ∀ i j, i < N → j < N → dstOf ops i = dstOf ops j → i = j) : ∀ k, k ≤ N → HeldAct ops N vals a0 (fun j => j < k) (fillTo ops vals a0 k)
  | 0, _ => HeldAct.start fun j _ h => absurd h (Nat.not_lt_zero j)
  | k + 1, hk => by
    obtain ⟨d, hd, hlt⟩ := hdst k (by omega)
    exact (fillTo_held hdst hinj k (by omega)).put (by omega) hd hlt hinj fun j _ => by omega

theorem count_flip {p q : Nat → Bool} {i : Nat} (hne : ∀ j, j ≠ i → p j = q j) (hp : p i = false) (hq : q i = true) : ∀ N, i < N → (List.range N).countP p + 1 = (List.range N).countP q := by
  have hbelow : ∀ N, N ≤ i → (List.range N).countP p = (List.range N).countP q := by
    intro N hN
    refine List.countP_congr fun j hj => ?_
    have := List.mem_range.1 hj
    rw [hne j (by omega)]
  intro N
  induction N with
  | zero => intro h; omega
  | succ N ih =>
    intro h
    rw [List.range_succ, List.countP_append, List.countP_append]
    by_cases hN : i = N
    · subst hN
      rw [hbelow i (Nat.le_refl _)]
      simp [hp, hq]
    · have h1 := ih (by omega)
      rw [← h1]
      simp only [List.countP_singleton, hne N (by omega)]
      omega

/-- The first N have come up, the others not. -/
def headsOf (m N : Nat) : Array Bool := ((List.range m).map fun i => decide (i < N)).toArray

theorem heldIn (N : Nat) (hs : Region.sinkB md ops N = true) (hc : Region.chainB md ops N = true) (hn : N < ops.size)
    (htop : ∀ i, i < N → ∀ j, Region.waitsFor md ops i j = true → j < i) (S : World → Prop) (vals : Nat → Value) (a0 : Act)
    (hdst : ∀ i, i < N → ∃ d, dstOf ops i = some d ∧ d < a0.tmps.size) (hinj : ∀ i j, i < N → j < N → dstOf ops i = dstOf ops j → i = j)
    (hstep : ∀ i, i < N → ∀ a w, S w → (∀ j d, Region.waitsFor md ops i j = true → dstOf ops j = some d → a.tmps[d]? = some (vals j)) →
      (∀ s, (∀ j, j < N → dstOf ops j ≠ some s) → a.tmps[s]? = a0.tmps[s]?) → wpOpIn F n P ops Q i (fun a' w' => a' = a.put (dstOf ops i) (vals i) ∧ S w') a w)
    (hfin : ∀ w, S w → wpAnyIn F n P md ops Q (ops.size - N) (headsOf ops.size N) (fillTo ops vals a0 N) w) (w : World) (h0 : S w) :
    wpAnyIn F n P md ops Q ops.size (Array.replicate ops.size false) a0 w := by
  have key : ∀ (k : Nat) (listed : Array Bool) (a : Act) (w : World), HeadInv md ops N listed → (List.range N).countP (fun i => !listed.getD i true) = k →
      HeldAct ops N vals a0 (fun j => listed.getD j false = true) a → S w → wpAnyIn F n P md ops Q (k + (ops.size - N)) listed a w := by
    intro k
    induction k with
    | zero =>
      intro listed a w inv hk ha hS
      have hall : ∀ i, i < N → listed.getD i false = true := by
        intro i hi
        have h1 := List.countP_eq_zero.1 hk i (List.mem_range.2 hi)
        have h2 : listed.getD i true = true := by simpa using h1
        have hlt : i < listed.size := by rw [inv.size]; omega
        simp [hlt] at h2 ⊢; exact h2
      have hl : listed = headsOf ops.size N := by
        refine Array.ext (by simp [headsOf, inv.size]) fun i h1 h2 => ?_
        simp only [headsOf, List.getElem_toArray, List.getElem_map, List.getElem_range]
        by_cases hi : i < N
        · have := hall i hi
          simp [h1] at this
          simp [this, hi]
        · have := inv.tail i (by omega) (by rw [← inv.size]; exact h1)
          simp [h1] at this
          simp [this, hi]
      have hb : a = fillTo ops vals a0 N := ha.same (fillTo_held hdst hinj N (Nat.le_refl _)) fun j hj => ⟨fun _ => hj, fun _ => hall j hj⟩
      rw [hl, hb, Nat.zero_add]
      exact hfin w hS
    | succ k ih =>
      intro listed a w inv hk ha hS
      obtain ⟨m, hmN, hm⟩ : ∃ m, m < N ∧ listed.getD m true = false := by
        have : 0 < (List.range N).countP (fun i => !listed.getD i true) := by omega
        obtain ⟨m, hm, hp⟩ := List.countP_pos_iff.1 this
        exact ⟨m, List.mem_range.1 hm, by simpa using hp⟩
      have hsome : ∀ m, m < N → listed.getD m true = false → ∃ i, i ∈ Region.ready md ops listed := by
        intro m
        induction m using Nat.strongRecOn with
        | _ m ihm =>
          intro hmN hm
          have hms : m < ops.size := by omega
          by_cases hall : ∀ j, Region.waitsFor md ops m j = true → listed.getD j false = true
          · refine ⟨m, mem_ready.2 ⟨hm, ops[m], by simp [hms], fun e he hb => hall e.on ?_⟩⟩
            unfold Region.waitsFor
            simp only [Array.getElem?_eq_getElem hms]
            exact Array.any_eq_true'.2 ⟨e, he, by simp [hb]⟩
          · obtain ⟨j, hj⟩ := Classical.not_forall.1 hall
            obtain ⟨hj1, hj2⟩ := Classical.not_imp.1 hj
            have hjm := htop m hmN j hj1
            exact ihm j hjm (by omega) (getD_in (by rw [inv.size]; omega) (by simpa using hj2))
      show wpAnyIn F n P md ops Q (k + 1 + (ops.size - N)) listed a w
      rw [show k + 1 + (ops.size - N) = (k + (ops.size - N)) + 1 by omega]
      refine ⟨fun he => ?_, fun i hi => ?_⟩
      · obtain ⟨i, hi⟩ := hsome m hmN hm
        rw [he] at hi; cases hi
      · have hiN : i < N := by
          refine Nat.lt_of_not_le fun hle => ?_
          exact tail_waits hs hc hn inv (N - m) m rfl hmN hm i hle hi
        obtain ⟨hi1, oi, hoi, hall⟩ := mem_ready.1 hi
        obtain ⟨d, hd, hlt⟩ := hdst i hiN
        refine wpOpIn_mono ?_ (hstep i hiN a w hS (fun j e hw he => ?_) fun s hs' => ha.other s fun j hj _ => hs' j hj)
        · rintro a' w' ⟨rfl, hS'⟩
          have his : i < listed.size := by rw [inv.size]; omega
          refine ih _ _ _ (inv.set hi hiN) ?_ (ha.put hiN hd hlt hinj fun j _ => ?_) hS'
          · have := count_flip (p := fun j => !(listed.setIfInBounds i true).getD j true) (q := fun j => !listed.getD j true) (i := i)
              (fun j hj => by rw [getD_set_ne true (Ne.symm hj)]) (by simp [his]) (by simpa using hi1) N hiN
            omega
          · constructor
            · intro h
              by_cases hij : j = i
              · exact .inr hij
              · rw [getD_set_ne false (Ne.symm hij)] at h; exact .inl h
            · rintro (h | rfl)
              · exact getD_set_true h
              · simp [his]
        · obtain ⟨o', ho', e', he', hb', hon⟩ := Region.waitsFor_spec hw
          have : o' = oi := Option.some.inj (ho'.symm.trans hoi)
          subst this
          exact ha.done j e (by have := htop i hiN j hw; omega) he (by rw [← hon]; exact hall e' he' hb')
  have hfirst := key N (Array.replicate ops.size false) a0 w ⟨by simp, (fun j oj _ hl => by rw [getD_replicate_false] at hl; cases hl), fun t _ ht => by simp [ht]⟩ ?_ (HeldAct.start fun j _ h => by rw [getD_replicate_false] at h; cases h) h0
  · have e : N + (ops.size - N) = ops.size := Nat.add_sub_cancel' (Nat.le_of_lt hn)
    rw [e] at hfirst
    exact hfirst
  · refine (List.countP_eq_length.2 fun i hi => ?_).trans List.length_range
    have := List.mem_range.1 hi
    simp [show i < ops.size by omega]

/-- The same, its conditions on the operations as tests that are worked out. -/
def topB (md : Region.Mode) (ops : Array Oper) (N : Nat) : Bool := (List.range N).all fun i => match ops[i]? with
  | some o => o.after.all fun e => !Region.binds md e || decide (e.on < i)
  | none => true
def dstB (ops : Array Oper) (N m : Nat) : Bool := (List.range N).all fun i => match dstOf ops i with
  | some d => decide (d < m)
  | none => false
def injB (ops : Array Oper) (N : Nat) : Bool := (List.range N).all fun i => (List.range N).all fun j => decide (i = j) || dstOf ops i != dstOf ops j
def baseB (ops : Array Oper) (N s : Nat) : Bool := (List.range N).all fun j => dstOf ops j != some s

theorem heldInB (N : Nat) (hs : Region.sinkB md ops N = true) (hc : Region.chainB md ops N = true) (hn : decide (N < ops.size) = true)
    (htop : topB md ops N = true) (S : World → Prop) (vals : Nat → Value) (a0 : Act) (hdst : dstB ops N a0.tmps.size = true) (hinj : injB ops N = true)
    (hstep : ∀ i, i < N → ∀ a w, S w → (∀ j d, Region.waitsFor md ops i j = true → dstOf ops j = some d → a.tmps[d]? = some (vals j)) →
      (∀ s, baseB ops N s = true → a.tmps[s]? = a0.tmps[s]?) → wpOpIn F n P ops Q i (fun a' w' => a' = a.put (dstOf ops i) (vals i) ∧ S w') a w)
    (hfin : ∀ w, S w → wpAnyIn F n P md ops Q (ops.size - N) (headsOf ops.size N) (fillTo ops vals a0 N) w) (w : World) (h0 : S w) :
    wpAnyIn F n P md ops Q ops.size (Array.replicate ops.size false) a0 w := by
  refine heldIn N hs hc (of_decide_eq_true hn) ?_ S vals a0 ?_ ?_ ?_ hfin w h0
  · intro i hi j hw
    have h1 := List.all_eq_true.1 htop i (List.mem_range.2 hi)
    obtain ⟨o, ho, e, he, hb, hon⟩ := Region.waitsFor_spec hw
    rw [ho] at h1
    have h2 := Array.all_eq_true'.1 h1 e he
    simp only [hb, Bool.not_true, Bool.false_or, decide_eq_true_eq] at h2
    omega
  · intro i hi
    have h1 := List.all_eq_true.1 hdst i (List.mem_range.2 hi)
    cases hd : dstOf ops i with
    | none => rw [hd] at h1; cases h1
    | some d => rw [hd] at h1; exact ⟨d, rfl, of_decide_eq_true h1⟩
  · intro i j hi hj hd
    have h1 := List.all_eq_true.1 (List.all_eq_true.1 hinj i (List.mem_range.2 hi)) j (List.mem_range.2 hj)
    rw [hd] at h1
    simpa using h1
  · intro i hi a w hS hdep hbase
    refine hstep i hi a w hS hdep fun s hsb => hbase s fun j hj hd => ?_
    have h1 := List.all_eq_true.1 hsb j (List.mem_range.2 hj)
    rw [hd] at h1
    simp at h1
end
end Go.Proofs.Ytmlkeddiagmedaa
