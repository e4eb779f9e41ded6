import Derived.StillTail
import Derived.Test.YtiihdbchchnncaaM3
import Derived.Test.YtiihdbchchnncaaM5
import Derived.Test.YtiihdbchchnncaaM7
import Derived.Test.YtiihdbchchnncaaM13
section
namespace Go.Proofs.Ytiihdbchchnncaa
open Go Go.RowKit

/-! What stays, by number. -/
theorem cnt_mono (p : Nat → Bool) {i j : Nat} (h : i ≤ j) : cnt p i ≤ cnt p j := by
  induction h with
  | refl => exact Nat.le_refl _
  | step _ ih => rw [Nat.succ_eq_add_one, cnt_succ]; split <;> omega
theorem cnt_lt {p : Nat → Bool} {i j : Nat} (h : i < j) (hp : p i = true) : cnt p i < cnt p j := by
  have := cnt_mono p (show i + 1 ≤ j from h)
  rw [cnt_succ, if_pos hp] at this
  omega
theorem cnt_inj {p : Nat → Bool} {i j : Nat} (hi : p i = true) (hj : p j = true) (h : cnt p i = cnt p j) : i = j := by
  rcases Nat.lt_trichotomy i j with c | c | c
  · have := cnt_lt c hi; omega
  · exact c
  · have := cnt_lt c hj; omega
theorem snoc_ind {α : Type} {P : List α → Prop} (nil : P []) (snoc : ∀ l x, P l → P (l ++ [x])) : ∀ l, P l := fun l => by
  have h : ∀ r : List α, P r.reverse := by
    intro r
    induction r with
    | nil => exact nil
    | cons x r ih => rw [List.reverse_cons]; exact snoc _ _ ih
  have := h l.reverse
  rwa [List.reverse_reverse] at this
theorem keepL_length {α : Type} (p : Nat → Bool) (l : List α) : (keepL p l).length = cnt p l.length := by
  induction l using snoc_ind with
  | nil => rfl
  | snoc l x ih =>
    rw [keepL_snoc, List.length_append, ih, List.length_append, List.length_singleton, cnt_succ]
    split <;> simp
theorem keepL_at {α : Type} {p : Nat → Bool} {l : List α} {i : Nat} {x : α} (h : l[i]? = some x) (hp : p i = true) : (keepL p l)[cnt p i]? = some x := by
  induction l using snoc_ind with
  | nil => simp at h
  | snoc l y ih =>
    rw [keepL_snoc]
    by_cases c : i < l.length
    · rw [List.getElem?_append_left c] at h
      rw [List.getElem?_append_left (by rw [keepL_length]; exact cnt_lt c hp)]
      exact ih h
    · have hi : i = l.length := by
        have := (List.getElem?_eq_some_iff.1 h).1
        rw [List.length_append, List.length_singleton] at this
        omega
      subst hi
      rw [if_pos hp, ← keepL_length]
      simpa using h
theorem keepL_get {α : Type} {p : Nat → Bool} {l : List α} {k : Nat} {x : α} (h : (keepL p l)[k]? = some x) : ∃ i, l[i]? = some x ∧ p i = true ∧ cnt p i = k := by
  induction l using snoc_ind with
  | nil => simp [keepL] at h
  | snoc l y ih =>
    rw [keepL_snoc] at h
    by_cases c : k < (keepL p l).length
    · rw [List.getElem?_append_left c] at h
      obtain ⟨i, h1, h2, h3⟩ := ih h
      exact ⟨i, by rw [List.getElem?_append_left (List.getElem?_eq_some_iff.1 h1).1]; exact h1, h2, h3⟩
    · rw [List.getElem?_append_right (by omega)] at h
      split at h
      · next hp =>
        have h0 : k - (keepL p l).length = 0 := by
          have := (List.getElem?_eq_some_iff.1 h).1
          simp at this; omega
        rw [h0] at h
        refine ⟨l.length, by simpa using h, hp, ?_⟩
        rw [← keepL_length]; omega
      · simp at h
theorem plI_yes {p : Nat → Bool} {i : Nat} (h : p i = true) : plI p i = (cnt p i : Nat) := by unfold plI; rw [if_pos h]
theorem plI_ne {p : Nat → Bool} {i : Nat} (h : plI p i ≠ -1) : p i = true := by
  unfold plI at h
  split at h
  · assumption
  · exact absurd rfl h
theorem sP_lt {S : List Bool} {i : Nat} (h : sP S i = true) : i < S.length := by
  have := lv_true (show lv S (i : Int) = true from h)
  rw [Int.toNat_natCast] at this
  exact (List.getElem?_eq_some_iff.1 this).1

/-- A production whose left is reached and whose sorts are all live stays. -/
theorem stay_of {g : GramM} {L R : List Bool} (hm : MayB g) (hR : ReachL g L R) {x : ProdM} (hx : x ∈ g.prods) (hl : lv R x.left = true) (hs : sortsB (lv L) x = true) : stayP R x = true := by
  obtain ⟨k, hk, hkn⟩ := hm.left x hx
  unfold stayP
  rw [hl, Bool.true_and]
  refine List.all_eq_true.2 fun s hsx => ?_
  unfold sortB
  cases c : (s.kind == 1) with
  | false => rfl
  | true =>
    obtain ⟨t, ht, htn⟩ := hm.sym x hx s hsx (by simpa using c)
    have h1 := lv_true hl
    rw [hk, Int.toNat_natCast] at h1
    refine lv_some ?_
    rw [ht, Int.toNat_natCast]
    exact (hR.2 t).2 (((hR.2 k).1 h1).step ⟨x, hx, hk, hs, s, hsx, by simpa using c, ht⟩)
/-- Where a production that stays has gone. -/
theorem moved_mem {g h : GramM} {R : List Bool} (hK : KeptM g R h) {x : ProdM} (hx : x ∈ g.prods) (hs : stayP R x = true) : ∃ y, y ∈ h.prods ∧ bareP y = bareP (movP (sP R) none 0 x) := by
  obtain ⟨i, hi⟩ := List.mem_iff_getElem?.1 hx
  have hp : pP g R i = true := by unfold pP; rw [hi]; exact hs
  have h1 := keepL_at hi hp
  have h2 : (h.prods.map bareP)[cnt (pP g R) i]? = some (bareP (movP (sP R) none 0 x)) := by rw [hK.prods, List.getElem?_map, h1]; rfl
  rw [List.getElem?_map] at h2
  cases c : h.prods[cnt (pP g R) i]? with
  | none => rw [c] at h2; cases h2
  | some y => rw [c] at h2; exact ⟨y, List.mem_of_getElem? c, by simpa using h2⟩
/-- Where a production of what is kept comes from. -/
theorem moved_from {g h : GramM} {R : List Bool} (hK : KeptM g R h) {y : ProdM} (hy : y ∈ h.prods) : ∃ x, x ∈ g.prods ∧ stayP R x = true ∧ bareP y = bareP (movP (sP R) none 0 x) := by
  have h1 : bareP y ∈ h.prods.map bareP := List.mem_map_of_mem hy
  rw [hK.prods] at h1
  obtain ⟨x, hx, e⟩ := List.mem_map.1 h1
  obtain ⟨k, hk⟩ := List.mem_iff_getElem?.1 hx
  obtain ⟨i, h2, h3, _⟩ := keepL_get hk
  refine ⟨x, List.mem_of_getElem? h2, ?_, e.symm⟩
  unfold pP at h3
  rw [h2] at h3
  exact h3
end Go.Proofs.Ytiihdbchchnncaa
end
section
namespace Go.Proofs.Ytiihdbchchnncaa
open Go Go.RowKit

/-- What is reached from a live start is live. -/
theorem rf_live {g : GramM} {L : List Bool} {a b : Nat} (h : RF g L a b) (ha : lv L (a : Int) = true) : lv L (b : Int) = true := by
  induction h with
  | refl => exact ha
  | step _ e _ =>
    obtain ⟨x, _, _, hs, s, hsx, hk, ht⟩ := e
    have := List.all_eq_true.1 hs s hsx
    unfold sortB at this
    rw [hk, ht] at this
    simpa using this
theorem sP_iff {S : List Bool} {i : Nat} : sP S i = true ↔ S[i]? = some true := by
  constructor
  · intro h
    have := lv_true (show lv S (i : Int) = true from h)
    rwa [Int.toNat_natCast] at this
  · intro h
    exact lv_some (i := (i : Int)) (by rw [Int.toNat_natCast]; exact h)
theorem moved_left {x y : ProdM} {p : Nat → Bool} (h : bareP y = bareP (movP p none 0 x)) : y.left = plI p x.left.toNat := by have := congrArg ProdM.left h; exact this
theorem moved_right {x y : ProdM} {p : Nat → Bool} (h : bareP y = bareP (movP p none 0 x)) : y.right = x.right.map (movS p) := by have := congrArg ProdM.right h; exact this
theorem moved_role {x y : ProdM} {p : Nat → Bool} (h : bareP y = bareP (movP p none 0 x)) : y.role = x.role := by have := congrArg ProdM.role h; exact this
theorem movS_kind (p : Nat → Bool) (s : SymM) : (movS p s).kind = s.kind := by unfold movS; split <;> rfl
theorem movS_sort {p : Nat → Bool} {s : SymM} (h : s.kind = 1) : (movS p s).sort = plI p s.sort.toNat := by unfold movS; rw [if_pos h]
/-- A sort of a production that stays, stays. -/
theorem stay_sort {R : List Bool} {x : ProdM} (h : stayP R x = true) {s : SymM} (hs : s ∈ x.right) (hk : s.kind = 1) : lv R s.sort = true := by
  unfold stayP at h
  rw [Bool.and_eq_true] at h
  have := List.all_eq_true.1 h.2 s hs
  unfold sortB at this
  rw [hk] at this
  simpa using this
theorem stay_left {R : List Bool} {x : ProdM} (h : stayP R x = true) : lv R x.left = true := by
  unfold stayP at h
  rw [Bool.and_eq_true] at h
  exact h.1

theorem pv_kept {g h : GramM} {L R : List Bool} (hm : MayB g) (hL : Live g L) (hR : ReachL g L R) (hK : KeptM g R h) {i : Nat} (hi : PV g i) : sP R i = true → PV h (cnt (sP R) i) := by
  induction hi with
  | mk x hx hr hs ih =>
    intro hp
    obtain ⟨k, hk, hkn⟩ := hm.left x hx
    have hsl : sortsB (lv L) x = true := List.all_eq_true.2 fun s hsx => by
      unfold sortB
      cases c : (s.kind == 1) with
      | false => rfl
      | true => exact lv_some ((hL.2 _).2 (hs s hsx (by simpa using c)))
    have hst : stayP R x = true := stay_of hm hR hx (by rw [hk] at hp ⊢; exact hp) hsl
    obtain ⟨y, hy, e⟩ := moved_mem hK hx hst
    have hyl := moved_left e
    rw [plI_yes hp] at hyl
    have : PV h y.left.toNat := .mk y hy (by rw [moved_role e]; exact hr) fun s' hs' hk' => by
      rw [moved_right e] at hs'
      obtain ⟨s, hsx, rfl⟩ := List.mem_map.1 hs'
      rw [movS_kind] at hk'
      obtain ⟨t, ht, htn⟩ := hm.sym x hx s hsx hk'
      have hlt := stay_sort hst hsx hk'
      have hpt : sP R s.sort.toNat = true := by rw [ht] at hlt ⊢; exact hlt
      rw [movS_sort hk', plI_yes hpt, Int.toNat_natCast]
      exact ih s hsx hk' hpt
    rw [hyl, Int.toNat_natCast] at this
    exact this

/-- All are told. -/
theorem yes_at {n k : Nat} : (List.replicate n true)[k]? = some true ↔ k < n := by
  rw [List.getElem?_replicate]
  split
  · simpa
  · simp; omega
theorem kept_num {g h : GramM} {R : List Bool} (hK : KeptM g R h) {k : Nat} (hk : k < h.sorts.length) : ∃ i, sP R i = true ∧ cnt (sP R) i = k := by
  obtain ⟨x, e⟩ : ∃ x, h.sorts[k]? = some x := ⟨_, List.getElem?_eq_getElem hk⟩
  rw [hK.sorts] at e
  obtain ⟨i, _, h2, h3⟩ := keepL_get e
  exact ⟨i, h2, h3⟩
theorem kept_lt {g h : GramM} {R : List Bool} (hR : R.length = g.sorts.length) (hK : KeptM g R h) {i : Nat} (hi : sP R i = true) : cnt (sP R) i < h.sorts.length := by
  rw [hK.sorts, keepL_length]
  exact cnt_lt (by rw [← hR]; exact sP_lt hi) hi
theorem live_kept {g h : GramM} {L R : List Bool} (hm : MayB g) (hL : Live g L) (hst : lv L g.start = true) (hR : ReachL g L R) (hK : KeptM g R h) : Live h (List.replicate h.sorts.length true) := by
  refine ⟨by simp, fun k => ?_⟩
  rw [yes_at]
  constructor
  · intro hk
    obtain ⟨i, hi, rfl⟩ := kept_num hK hk
    refine pv_kept hm hL hR hK ?_ hi
    obtain ⟨st, e, _⟩ := hm.start
    have h1 := (hR.2 i).1 (sP_iff.1 hi)
    rw [e, Int.toNat_natCast] at h1
    have h2 := lv_true (rf_live h1 (by rw [← e]; exact hst))
    rw [Int.toNat_natCast] at h2
    exact (hL.2 i).1 h2
  · intro hk
    cases hk with
    | mk y hy hr hs =>
      obtain ⟨x, hx, hsx, e⟩ := moved_from hK hy
      obtain ⟨j, hj, hjn⟩ := hm.left x hx
      have hp : sP R x.left.toNat = true := by have := stay_left hsx; rw [hj] at this ⊢; exact this
      rw [moved_left e, plI_yes hp, Int.toNat_natCast]
      exact kept_lt hR.1 hK hp
theorem reach_kept {g h : GramM} {L R : List Bool} (hm : MayB g) (hst : lv L g.start = true) (hR : ReachL g L R) (hK : KeptM g R h) : ReachL h (List.replicate h.sorts.length true) (List.replicate h.sorts.length true) := by
  have hstart : sP R g.start.toNat = true := sP_iff.2 ((hR.2 _).2 .refl)
  have hs : h.start.toNat = cnt (sP R) g.start.toNat := by rw [hK.start, plI_yes hstart, Int.toNat_natCast]
  have hall : ∀ y, y ∈ h.prods → sortsB (lv (List.replicate h.sorts.length true)) y = true := fun y hy => by
    obtain ⟨x, hx, hsx, e⟩ := moved_from hK hy
    refine List.all_eq_true.2 fun s' hs' => ?_
    rw [moved_right e] at hs'
    obtain ⟨s, hss, rfl⟩ := List.mem_map.1 hs'
    unfold sortB
    rw [movS_kind]
    cases c : (s.kind == 1) with
    | false => rfl
    | true =>
      have hk : s.kind = 1 := by simpa using c
      obtain ⟨t, ht, htn⟩ := hm.sym x hx s hss hk
      have hpt : sP R s.sort.toNat = true := by have := stay_sort hsx hss hk; rw [ht] at this ⊢; exact this
      rw [movS_sort hk, plI_yes hpt]
      exact lv_some (by rw [Int.toNat_natCast]; exact yes_at.2 (kept_lt hR.1 hK hpt))
  have fwd : ∀ i, RF g L g.start.toNat i → RF h (List.replicate h.sorts.length true) h.start.toNat (cnt (sP R) i) := fun i hi => by
    induction hi with
    | refl => rw [hs]; exact .refl
    | @step k t hk e ih =>
      obtain ⟨x, hx, hl, hsl, s, hsx, hk1, ht⟩ := e
      have hpk : sP R k = true := sP_iff.2 ((hR.2 k).2 hk)
      have hstay : stayP R x = true := stay_of hm hR hx (by rw [hl]; exact hpk) hsl
      obtain ⟨y, hy, e⟩ := moved_mem hK hx hstay
      have hpt : sP R t = true := by have := stay_sort hstay hsx hk1; rw [ht] at this; exact this
      refine ih.step ⟨y, hy, ?_, hall y hy, movS (sP R) s, ?_, ?_, ?_⟩
      · rw [moved_left e, hl, Int.toNat_natCast, plI_yes hpk]
      · rw [moved_right e]; exact List.mem_map_of_mem hsx
      · rw [movS_kind]; exact hk1
      · rw [movS_sort hk1, ht, Int.toNat_natCast, plI_yes hpt]
  refine ⟨by simp, fun k => ?_⟩
  rw [yes_at]
  constructor
  · intro hk
    obtain ⟨i, hi, rfl⟩ := kept_num hK hk
    exact fwd i ((hR.2 i).1 (sP_iff.1 hi))
  · intro hk
    cases hk with
    | refl => rw [hs]; exact kept_lt hR.1 hK hstart
    | step _ e =>
      obtain ⟨y, hy, _, hsl, s, hsx, hk1, ht⟩ := e
      have := List.all_eq_true.1 hsl s hsx
      unfold sortB at this
      rw [hk1, ht] at this
      have := lv_true (by simpa using this)
      rw [Int.toNat_natCast] at this
      exact yes_at.1 this
end Go.Proofs.Ytiihdbchchnncaa
end
section
namespace Go.Proofs.Ytiihdbchchnncaa
open Go Go.RowKit

theorem keepL_sub {α : Type} (p : Nat → Bool) (l : List α) : (keepL p l).Sublist l := by
  unfold keepL
  have h := (List.filter_sublist (p := fun q : α × Nat => p q.2) (l := l.zipIdx)).map (·.1)
  have e : l.zipIdx.map (·.1) = l := by
    apply List.ext_getElem?
    intro i
    rw [List.getElem?_map, List.getElem?_zipIdx]
    cases l[i]? <;> rfl
  rwa [e] at h
theorem keepL_mem {α : Type} {p : Nat → Bool} {l : List α} {x : α} (h : x ∈ keepL p l) : x ∈ l := (keepL_sub p l).mem h
theorem plI_inj {p : Nat → Bool} {i j : Nat} (hi : p i = true) (hj : p j = true) : plI p i = plI p j ↔ i = j := by
  rw [plI_yes hi, plI_yes hj]
  constructor
  · intro h; exact cnt_inj hi hj (by omega)
  · rintro rfl; rfl
theorem numB_iff {n c : Int} : numB n c = true ↔ 0 ≤ n ∧ n < c := by unfold numB; simp
theorem kept_plen {g h : GramM} {R : List Bool} (hK : KeptM g R h) : h.prods.length = cnt (pP g R) g.prods.length := by
  have := congrArg List.length hK.prods
  rwa [List.length_map, List.length_map, keepL_length] at this
theorem kept_prod {g h : GramM} {R : List Bool} (hK : KeptM g R h) {i : Nat} (hp : pP g R i = true) : ∃ x y, g.prods[i]? = some x ∧ stayP R x = true ∧ h.prods[cnt (pP g R) i]? = some y ∧ bareP y = bareP (movP (sP R) none 0 x) := by
  have hp' := hp
  unfold pP at hp'
  cases hi : g.prods[i]? with
  | none => rw [hi] at hp'; cases hp'
  | some x =>
    rw [hi] at hp'
    have h1 := keepL_at hi hp
    have h2 : (h.prods.map bareP)[cnt (pP g R) i]? = some (bareP (movP (sP R) none 0 x)) := by rw [hK.prods, List.getElem?_map, h1]; rfl
    rw [List.getElem?_map] at h2
    cases c : h.prods[cnt (pP g R) i]? with
    | none => rw [c] at h2; cases h2
    | some y => rw [c] at h2; exact ⟨x, y, rfl, hp', rfl, by simpa using h2⟩

theorem symB_moved {g h : GramM} {L R : List Bool} (hR : ReachL g L R) (hK : KeptM g R h) {s : SymM} (hs : symB g.sorts.length s = true) (hk : s.kind = 1 → lv R s.sort = true) : symB h.sorts.length (movS (sP R) s) = true := by
  unfold symB at hs ⊢
  by_cases e0 : s.kind = 0
  · have e : movS (sP R) s = s := by unfold movS; rw [if_neg (by omega)]
    rw [e, if_pos e0]
    rwa [if_pos e0] at hs
  · rw [if_neg e0] at hs
    by_cases e1 : s.kind = 1
    · rw [if_pos e1, Bool.and_eq_true] at hs
      have hl := hk e1
      obtain ⟨h1, h2⟩ := numB_iff.1 hs.2
      have hp : sP R s.sort.toNat = true := by unfold sP; rw [show ((s.sort.toNat : Nat) : Int) = s.sort by omega]; exact hl
      rw [movS_kind, if_neg e0, if_pos e1, Bool.and_eq_true]
      refine ⟨by unfold movS; rw [if_pos e1]; exact hs.1, numB_iff.2 ?_⟩
      rw [movS_sort e1, plI_yes hp]
      have := kept_lt hR.1 hK hp
      omega
    · rw [if_neg e1] at hs; cases hs
theorem sortsB_false {x : ProdM} {p : Nat → Bool} (l : List SymM) : (l.map (movS p)).all (sortB fun _ => false) = l.all (sortB fun _ => false) := by
  rw [List.all_map]
  congr 1
  funext s
  simp only [Function.comp, sortB, movS_kind]
theorem prodB_moved {g h : GramM} {L R : List Bool} (hm : MayB g) (hR : ReachL g L R) (hK : KeptM g R h) {x y : ProdM} (hx : x ∈ g.prods) (hst : stayP R x = true) (hb : prodB g.sorts.length x = true) (e : bareP y = bareP (movP (sP R) none 0 x)) : prodB h.sorts.length y = true := by
  have e1 : prodB h.sorts.length y = prodB h.sorts.length (bareP y) := rfl
  have e2 : prodB h.sorts.length (movP (sP R) none 0 x) = prodB h.sorts.length (bareP (movP (sP R) none 0 x)) := rfl
  rw [e1, e, ← e2]
  unfold prodB at hb ⊢
  simp only [Bool.and_eq_true, decide_eq_true_eq, List.all_eq_true] at hb ⊢
  obtain ⟨h1, h2, h3, h4, h5⟩ := hb
  obtain ⟨k, hk, hkn⟩ := hm.left x hx
  have hp : sP R x.left.toNat = true := by have := stay_left hst; rw [hk] at this ⊢; exact this
  refine ⟨numB_iff.2 ?_, by simpa [movP] using h2, fun s' hs' => ?_, ?_, h5⟩
  · rw [show (movP (sP R) none 0 x).left = ((cnt (sP R) x.left.toNat : Nat) : Int) from plI_yes hp]
    have := kept_lt hR.1 hK hp
    omega
  · obtain ⟨s, hs, rfl⟩ := List.mem_map.1 (show s' ∈ x.right.map (movS (sP R)) from hs')
    exact symB_moved hR hK (h3 s hs) (stay_sort hst hs)
  · have : roleB (movP (sP R) none 0 x) = roleB x := by
      unfold roleB sortsB movP
      simp only [sortsB_false (x := x)]
    rw [this]; exact h4

theorem movF_some {p : Nat → Bool} {f f' : ForM} (h : movF p f = some f') : p f.parent.toNat = true ∧ p f.child.toNat = true ∧ f' = ⟨(cnt p f.parent.toNat : Nat), f.at_, (cnt p f.child.toNat : Nat)⟩ := by
  unfold movF at h
  split at h
  · next c =>
    have h1 := plI_ne c.1
    have h2 := plI_ne c.2
    rw [plI_yes h1, plI_yes h2] at h
    exact ⟨h1, h2, by simpa using h.symm⟩
  · cases h
theorem movW_some {p : Nat → Bool} {f f' : FolM} (h : movW p f = some f') : p f.sort.toNat = true ∧ f' = ⟨(cnt p f.sort.toNat : Nat), f.not⟩ := by
  unfold movW at h
  split at h
  · next c =>
    have h1 := plI_ne c
    rw [plI_yes h1] at h
    exact ⟨h1, by simpa using h.symm⟩
  · cases h
theorem standB_moved {g h : GramM} {R : List Bool} (hm : MayB g) {p c : ProdM} {k : Int} (hp : p ∈ g.prods) (hc : c ∈ g.prods) (sp : stayP R p = true) (sc : stayP R c = true) (hs : standB p k c = true) : standB (movP (sP R) none 0 p) k (movP (sP R) none 0 c) = true := by
  unfold standB at hs ⊢
  simp only [Bool.and_eq_true] at hs ⊢
  obtain ⟨h1, h2, h3, h4⟩ := hs
  refine ⟨h1, h2, by simpa [movP] using h3, ?_⟩
  show (match (p.right.map (movS (sP R)))[(k - 1).toNat]? with | some s => s.kind == 1 && s.sort == plI (sP R) c.left.toNat | none => false) = true
  rw [List.getElem?_map]
  cases e : p.right[(k - 1).toNat]? with
  | none => rw [e] at h4; cases h4
  | some s =>
    rw [e] at h4
    simp only [Bool.and_eq_true, beq_iff_eq] at h4
    simp only [Option.map_some, Bool.and_eq_true, beq_iff_eq]
    refine ⟨by rw [movS_kind]; exact h4.1, ?_⟩
    rw [movS_sort h4.1, h4.2]

theorem checkB_kept {g h : GramM} {L R : List Bool} (hc : checkB g = true) (hR : ReachL g L R) (hK : KeptM g R h) : checkB h = true := by
  have hm := mayB_of hc
  unfold checkB sortsB' startB prodsB forbidsB followsB at hc ⊢
  simp only [Bool.and_eq_true, decide_eq_true_eq, List.all_eq_true] at hc ⊢
  obtain ⟨⟨h1, h2, h3, h4⟩, h5, ⟨h6, h7⟩, ⟨h8, h9⟩, h10, h11⟩ := hc
  have hstart : sP R g.start.toNat = true := sP_iff.2 ((hR.2 _).2 .refl)
  have hsl := kept_lt hR.1 hK hstart
  refine ⟨⟨by omega, ?_, fun s hs => ?_, ?_⟩, ?_, ⟨?_, fun y hy => ?_⟩, ⟨?_, fun f' hf' => ?_⟩, fun f' hf' => ?_, ?_⟩
  · rw [hK.sorts]; exact Nat.le_trans (keepL_len _ _) h2
  · rw [hK.sorts] at hs; exact h3 s (keepL_mem hs)
  · rw [onceA_iff] at h4 ⊢
    refine ⟨(fun x _ y hy => absurd hy (by simp)), ?_⟩
    rw [hK.sorts]
    exact h4.2.sublist (keepL_sub _ _)
  · rw [hK.start, plI_yes hstart]
    exact numB_iff.2 ⟨by omega, by omega⟩
  · rw [kept_plen hK, ← keepL_length]
    exact Nat.le_trans (keepL_len _ _) h6
  · obtain ⟨x, hx, hst, e⟩ := moved_from hK hy
    exact prodB_moved hm hR hK hx hst (h7 x hx) e
  · rw [onceA_iff] at h8 ⊢
    refine ⟨(fun x _ y hy => absurd hy (by simp)), ?_⟩
    rw [hK.forbid, List.pairwise_filterMap]
    refine h8.2.imp_of_mem fun {a b} ha hb hab a' ea b' eb => ?_
    obtain ⟨pa, ca, rfl⟩ := movF_some ea
    obtain ⟨pb, cb, rfl⟩ := movF_some eb
    cases e : forEq ⟨(cnt (pP g R) a.parent.toNat : Nat), a.at_, (cnt (pP g R) a.child.toNat : Nat)⟩ ⟨(cnt (pP g R) b.parent.toNat : Nat), b.at_, (cnt (pP g R) b.child.toNat : Nat)⟩ with
    | false => rfl
    | true =>
      rw [forEq_iff] at e
      simp only [ForM.mk.injEq] at e
      have e1 := cnt_inj pa pb (by omega)
      have e2 := cnt_inj ca cb (by omega)
      obtain ⟨⟨k1, q1, _⟩, ⟨k2, q2, _⟩⟩ := hm.forb a ha
      obtain ⟨⟨k3, q3, _⟩, ⟨k4, q4, _⟩⟩ := hm.forb b hb
      have : forEq a b = true := by
        unfold forEq
        simp only [Bool.and_eq_true, beq_iff_eq]
        refine ⟨by omega, e.2.1, by omega⟩
      rw [hab] at this; cases this
  · rw [hK.forbid] at hf'
    obtain ⟨f, hf, e⟩ := List.mem_filterMap.1 hf'
    obtain ⟨pa, ca, rfl⟩ := movF_some e
    have hfb := h9 f hf
    obtain ⟨p, p', gp, sp, hp', ep⟩ := kept_prod hK pa
    obtain ⟨c, c', gc, sc, hc', ec⟩ := kept_prod hK ca
    unfold forbidB at hfb ⊢
    simp only [Bool.and_eq_true] at hfb ⊢
    obtain ⟨_, _, hfb⟩ := hfb
    rw [gp, gc] at hfb
    have l1 := (List.getElem?_eq_some_iff.1 hp').1
    have l2 := (List.getElem?_eq_some_iff.1 hc').1
    refine ⟨numB_iff.2 ⟨by omega, by omega⟩, numB_iff.2 ⟨by omega, by omega⟩, ?_⟩
    rw [Int.toNat_natCast, Int.toNat_natCast, hp', hc']
    have e1 : standB p' f.at_ c' = standB (bareP p') f.at_ (bareP c') := rfl
    have e2 : standB (movP (sP R) none 0 p) f.at_ (movP (sP R) none 0 c) = standB (bareP (movP (sP R) none 0 p)) f.at_ (bareP (movP (sP R) none 0 c)) := rfl
    show standB p' f.at_ c' = true
    rw [e1, ep, ec, ← e2]
    exact standB_moved (h := h) hm (List.mem_of_getElem? gp) (List.mem_of_getElem? gc) sp sc hfb
  · rw [hK.follow] at hf'
    obtain ⟨f, hf, e⟩ := List.mem_filterMap.1 hf'
    obtain ⟨pa, rfl⟩ := movW_some e
    have hfb := h10 f hf
    unfold folB at hfb ⊢
    rw [Bool.and_eq_true] at hfb ⊢
    have := kept_lt hR.1 hK pa
    dsimp only
    exact ⟨numB_iff.2 ⟨by omega, by omega⟩, hfb.2⟩
  · rw [onceA_iff] at h11 ⊢
    refine ⟨(fun x _ y hy => absurd hy (by simp)), ?_⟩
    have h12 := h11.2
    rw [List.pairwise_map] at h12 ⊢
    rw [hK.follow, List.pairwise_filterMap]
    refine h12.imp_of_mem fun {a b} ha hb hab a' ea b' eb => ?_
    obtain ⟨pa, rfl⟩ := movW_some ea
    obtain ⟨pb, rfl⟩ := movW_some eb
    obtain ⟨k1, q1, _⟩ := hm.fol a ha
    obtain ⟨k2, q2, _⟩ := hm.fol b hb
    simp only [beq_eq_false_iff_ne, ne_eq] at hab ⊢
    intro e
    have e1 := cnt_inj pa pb (by omega)
    exact hab (by omega)
end Go.Proofs.Ytiihdbchchnncaa
end
section
namespace Go.Proofs.Ytiihdbchchnncaa
open Go Go.RowKit

theorem dead_none (n : Nat) : deadI (List.replicate n true) < 0 := by
  unfold deadI
  rw [firstI_none (fun b => !b) _ (fun j y hy => by
    rw [List.getElem?_replicate] at hy
    split at hy
    · cases hy; rfl
    · cases hy)]
  decide
/-- What is trimmed is well formed. -/
theorem wellP_kept {g h : GramM} {L R : List Bool} (hc : checkB g = true) (hL : Live g L) (hst : lv L g.start = true) (hR : ReachL g L R) (hK : KeptM g R h) : WellP h (0, 0) := by
  have hm := mayB_of hc
  unfold WellP
  rw [if_pos (checkB_kept hc hR hK)]
  exact ⟨_, live_kept hm hL hst hR hK, .inr ⟨dead_none _, _, reach_kept hm hst hR hK, by have := dead_none h.sorts.length; rw [if_neg (by omega)]⟩⟩

theorem cnt_all {p : Nat → Bool} {n : Nat} (h : ∀ i, i < n → p i = true) : cnt p n = n := by
  induction n with
  | zero => rfl
  | succ n ih => rw [cnt_succ, if_pos (h n (by omega)), ih (fun i hi => h i (by omega))]
theorem plI_all {p : Nat → Bool} {n i : Nat} (h : ∀ i, i < n → p i = true) (hi : i < n) : plI p i = (i : Nat) := by
  rw [plI_yes (h i hi), cnt_all (fun j hj => h j (by omega))]
theorem keepL_all {α : Type} {p : Nat → Bool} {l : List α} (h : ∀ i, i < l.length → p i = true) : keepL p l = l := by
  refine (keepL_sub p l).eq_of_length ?_
  rw [keepL_length, cnt_all h]
theorem sP_all {n i : Nat} (h : i < n) : sP (List.replicate n true) i = true := sP_iff.2 (yes_at.2 h)
theorem filterMap_same {α : Type} {f : α → Option α} : ∀ {l : List α}, (∀ x, x ∈ l → f x = some x) → l.filterMap f = l := by
  intro l
  induction l with
  | nil => intro _; rfl
  | cons x l ih => intro h; rw [List.filterMap_cons, h x List.mem_cons_self]; simp only; rw [ih (fun y hy => h y (List.mem_cons_of_mem _ hy))]
/-- Where all stays, all is as it was. -/
theorem keptM_all {h h2 : GramM} (hm : MayB h) (hK : KeptM h (List.replicate h.sorts.length true) h2) : CopyOf h h2 := by
  have hs : ∀ i, i < h.sorts.length → sP (List.replicate h.sorts.length true) i = true := fun i hi => sP_all hi
  have hlv : ∀ (t : Int) (k : Nat), t = k → k < h.sorts.length → lv (List.replicate h.sorts.length true) t = true := fun t k ht hk => by rw [ht]; exact sP_all hk
  have hstay : ∀ x, x ∈ h.prods → stayP (List.replicate h.sorts.length true) x = true := fun x hx => by
    obtain ⟨k, hk, hkn⟩ := hm.left x hx
    unfold stayP
    rw [hlv _ k hk hkn, Bool.true_and]
    refine List.all_eq_true.2 fun s hsx => ?_
    unfold sortB
    cases c : (s.kind == 1) with
    | false => rfl
    | true =>
      obtain ⟨t, ht, htn⟩ := hm.sym x hx s hsx (by simpa using c)
      exact hlv _ t ht htn
  have hp : ∀ i, i < h.prods.length → pP h (List.replicate h.sorts.length true) i = true := fun i hi => by
    have e : h.prods[i]? = some (h.prods[i]) := List.getElem?_eq_getElem hi
    unfold pP
    rw [e]
    exact hstay _ (List.getElem_mem _)
  have hpl : ∀ (t : Int) (k : Nat), t = k → k < h.sorts.length → plI (sP (List.replicate h.sorts.length true)) t.toNat = t := fun t k ht hk => by rw [ht, Int.toNat_natCast, plI_all hs hk]
  have hpp : ∀ (t : Int) (k : Nat), t = k → k < h.prods.length → plI (pP h (List.replicate h.sorts.length true)) t.toNat = t := fun t k ht hk => by rw [ht, Int.toNat_natCast, plI_all hp hk]
  refine ⟨?_, ?_, ?_, ?_, ?_⟩
  · rw [hK.sorts, keepL_all hs]
  · obtain ⟨k, hk, hkn⟩ := hm.start
    rw [hK.start, hpl _ k hk hkn]
  · rw [hK.prods, keepL_all hp]
    refine List.map_congr_left fun x hx => ?_
    obtain ⟨k, hk, hkn⟩ := hm.left x hx
    have hr : x.right.map (movS (sP (List.replicate h.sorts.length true))) = x.right := by
      have : x.right.map (movS (sP (List.replicate h.sorts.length true))) = x.right.map id := List.map_congr_left fun s hsx => by
        unfold movS
        split
        · next c =>
          obtain ⟨t, ht, htn⟩ := hm.sym x hx s hsx c
          rw [hpl _ t ht htn]; rfl
        · rfl
      rw [this, List.map_id]
    unfold movP bareP
    simp only [hpl _ k hk hkn, hr]
  · rw [hK.forbid]
    exact filterMap_same fun f hf => by
      obtain ⟨⟨k1, q1, l1⟩, ⟨k2, q2, l2⟩⟩ := hm.forb f hf
      unfold movF
      rw [hpp _ k1 q1 l1, hpp _ k2 q2 l2, if_pos ⟨by omega, by omega⟩]
  · rw [hK.follow]
    exact filterMap_same fun f hf => by
      obtain ⟨k1, q1, l1⟩ := hm.fol f hf
      unfold movW
      rw [hpl _ k1 q1 l1, if_pos (by omega)]
/-- Trim of what is trimmed: the same. -/
theorem trim_again {g h : GramM} {L R : List Bool} (hc : checkB g = true) (hL : Live g L) (hst : lv L g.start = true) (hR : ReachL g L R) (hK : KeptM g R h) {e : Ending} {w : World} (hT : TrimP h e w) :
    ∃ h2, CopyOf h h2 ∧ GIn w h2 ∧ NilOK h2 ∧ e = .returned (.tuple #[gramV h2, .int .i64 0]) := by
  have hch := checkB_kept hc hR hK
  have hmh := mayB_of hch
  have hm := mayB_of hc
  have hL1 := live_kept hm hL hst hR hK
  have hR1 := reach_kept hm hst hR hK
  unfold TrimP at hT
  rw [if_pos hch] at hT
  obtain ⟨L', hL', hT⟩ := hT
  obtain rfl := hL1.unique hL'
  rcases hT with ⟨h1, _⟩ | ⟨_, R', h2, hR', hK', h3, h4, h5⟩
  · obtain ⟨k, hk, hkn⟩ := hmh.start
    rw [hk, show lv (List.replicate h.sorts.length true) (k : Int) = true from sP_all hkn] at h1
    cases h1
  · obtain rfl := hR1.unique hR'
    exact ⟨h2, keptM_all hmh hK', h3, h4, h5⟩
end Go.Proofs.Ytiihdbchchnncaa
end
section
namespace Go.Proofs.Ytiihdbchchnncaa
open Go Go.RowKit

theorem keepL_map {α β : Type} (f : α → β) (p : Nat → Bool) (l : List α) : keepL p (l.map f) = (keepL p l).map f := by
  unfold keepL
  rw [List.zipIdx_map, List.filter_map, List.map_map, List.map_map]
  rfl
theorem pP_copy {g m : GramM} (h : CopyOf g m) (R : List Bool) : pP m R = pP g R := by
  funext i
  unfold pP
  have a := h.at i
  cases e1 : m.prods[i]? <;> cases e2 : g.prods[i]? <;> rw [e1, e2] at a <;> simp at a
  next x y =>
    have b1 : stayP R x = stayP R (bareP x) := rfl
    have b2 : stayP R y = stayP R (bareP y) := rfl
    show stayP R x = stayP R y
    rw [b1, b2, a]
theorem keptM_copy {g m h : GramM} {R : List Bool} (hc : CopyOf g m) (hK : KeptM m R h) : KeptM g R h := by
  refine ⟨by rw [hK.sorts, hc.sorts], by rw [hK.start, hc.start], ?_, by rw [hK.forbid, hc.forbid, pP_copy hc], by rw [hK.follow, hc.follow]⟩
  rw [hK.prods, pP_copy hc]
  have e : ∀ l : List ProdM, (keepL (pP g R) l).map (fun x => bareP (movP (sP R) none 0 x)) = (keepL (pP g R) (l.map bareP)).map (fun x => bareP (movP (sP R) none 0 x)) := fun l => by
    rw [keepL_map, List.map_map]
    rfl
  rw [e, e g.prods, hc.prods]
theorem keptM_unique {g h h' : GramM} {R : List Bool} (hK : KeptM g R h) (hK' : KeptM g R h') : CopyOf h h' :=
  ⟨by rw [hK.sorts, hK'.sorts], by rw [hK.start, hK'.start], by rw [hK.prods, hK'.prods], by rw [hK.forbid, hK'.forbid], by rw [hK.follow, hK'.follow]⟩
/-- Trim's answer on a copy. -/
theorem trimP_copy {g m : GramM} (hc : CopyOf g m) {e : Ending} {w : World} (h : TrimP m e w) : TrimP g e w := by
  unfold TrimP at *
  rw [checkB_copy hc] at h
  split
  · next c =>
    rw [if_pos c] at h
    obtain ⟨L, hL, h⟩ := h
    refine ⟨L, live_copy hc hL, ?_⟩
    rw [hc.start] at h
    rcases h with h | ⟨h1, R, k, h2, h3, h4, h5, h6⟩
    · exact .inl h
    · exact .inr ⟨h1, R, k, reachL_copy hc h2, keptM_copy hc h3, h4, h5, h6⟩
  · next c => rw [if_neg c] at h; exact h
/-- The reference's Trim's answer. -/
def RTrimP (g : GramM) (e : Ending) (w' : World) : Prop :=
  ∃ L, Live g L ∧ ((lv L g.start = false ∧ e = .returned (.tuple #[gramV zeroG, .bool false])) ∨ (lv L g.start = true ∧ ∃ R h, ReachL g L R ∧ KeptM g R h ∧ GIn w' h ∧ NilOK h ∧ e = .returned (.tuple #[gramV h, .bool true])))
/-- What is kept is bound as the grammar is. -/
theorem kept_fit {g h : GramM} {R : List Bool} (hf : FitG g) (hm : MayB g) (hK : KeptM g R h) : FitG h := by
  have l1 : h.sorts.length ≤ g.sorts.length := by rw [hK.sorts]; exact keepL_len _ _
  have l2 : h.prods.length ≤ g.prods.length := by rw [kept_plen hK, ← keepL_length]; exact keepL_len _ _
  have l3 : h.forbid.length ≤ g.forbid.length := by rw [hK.forbid]; exact List.length_filterMap_le _ _
  have l4 : h.follow.length ≤ g.follow.length := by rw [hK.follow]; exact List.length_filterMap_le _ _
  have s1 := hm.sorts2
  have s2 := hm.prods
  have a3 := hf.fit.forbid
  have a4 := hf.fit.follow
  refine ⟨⟨by omega, by omega, fun y hy => ?_, by omega, by omega, fun f' hf' => ?_, fun s hs => ?_⟩, fun f' hf' => ?_, fun f' hf' => ?_⟩
  · obtain ⟨x, hx, _, e⟩ := moved_from hK hy
    rw [moved_right e, List.length_map]
    exact hf.fit.right x hx
  · rw [hK.forbid] at hf'
    obtain ⟨f, h1, e⟩ := List.mem_filterMap.1 hf'
    obtain ⟨_, _, rfl⟩ := movF_some e
    exact hf.fit.at_ f h1
  · rw [hK.sorts] at hs
    exact hf.fit.names s (keepL_mem hs)
  · rw [hK.forbid] at hf'
    obtain ⟨f, h1, e⟩ := List.mem_filterMap.1 hf'
    obtain ⟨_, _, rfl⟩ := movF_some e
    obtain ⟨⟨k1, q1, b1⟩, ⟨k2, q2, b2⟩⟩ := hm.forb f h1
    have c1 := cnt_le (pP g R) f.parent.toNat
    have c2 := cnt_le (pP g R) f.child.toNat
    have w1 := (hf.forb f h1).at_
    unfold I64 at w1
    refine ⟨?_, ?_, ?_⟩
    · show -9223372036854775808 ≤ ((cnt (pP g R) f.parent.toNat : Nat) : Int) ∧ _ ≤ (9223372036854775807 : Int)
      constructor <;> (try dsimp only) <;> omega
    · exact w1
    · show -9223372036854775808 ≤ ((cnt (pP g R) f.child.toNat : Nat) : Int) ∧ _ ≤ (9223372036854775807 : Int)
      constructor <;> (try dsimp only) <;> omega
  · rw [hK.follow] at hf'
    obtain ⟨f, h1, e⟩ := List.mem_filterMap.1 hf'
    obtain ⟨_, rfl⟩ := movW_some e
    obtain ⟨k1, q1, b1⟩ := hm.fol f h1
    have c1 := cnt_le (sP R) f.sort.toNat
    show -9223372036854775808 ≤ ((cnt (sP R) f.sort.toNat : Nat) : Int) ∧ _ ≤ (9223372036854775807 : Int)
    constructor <;> (try dsimp only) <;> omega
end Go.Proofs.Ytiihdbchchnncaa
end
section
namespace Go.Proofs.Ytiihdbchchnncaa
open Go Go.RowKit

theorem nil_in (w : World) : GIn w zeroG := ⟨RowOf.nil _, RowOf.nil _, RowOf.nil _, RowOf.nil _⟩
theorem nil_fit : FitG zeroG := ⟨⟨by decide, by decide, fun x hx => (by cases hx), by decide, by decide, fun x hx => (by cases hx), fun x hx => (by cases hx)⟩, fun x hx => (by cases hx), fun x hx => (by cases hx)⟩
theorem nil_same : sameG zeroG zeroG = true := by decide

/-- What the law's blocks hold: the grammar, its copy, what was trimmed. -/
structure LT (g m h : GramM) (w : World) (Bm Bt : Nat) (W : World) : Prop where
  b0 : Blk W w.heap.size 27 (gramC g)
  b1 : Blk W Bm 27 (gramC m)
  b2 : Blk W Bt 27 (gramC h)
  bl : Below w.heap.size w W
  gg : GIn W g
  gm : GIn W m
  gh : GIn W h
theorem LT.below {g m h : GramM} {w : World} {Bm Bt : Nat} {W W' : World} (k : LT g m h w Bm Bt W) (hB : Below W.heap.size W W') : LT g m h w Bm Bt W' :=
  ⟨k.b0.below hB k.b0.lt, k.b1.below hB k.b1.lt, k.b2.below hB k.b2.lt, k.bl.trans (hB.mono k.bl.size), k.gg.below hB, k.gm.below hB, k.gh.below hB⟩

theorem trimP_cases {g : GramM} (hf : FitG g) {e : Ending} {w : World} (h : TrimP g e w) : ∃ t E, e = .returned (.tuple #[gramV t, .int .i64 E]) ∧ GIn w t ∧
    ((checkB g = false ∧ E = 160 ∧ t = zeroG) ∨ (checkB g = true ∧ ∃ L, Live g L ∧ ((lv L g.start = false ∧ E = 161 ∧ t = zeroG) ∨ (lv L g.start = true ∧ E = 0 ∧ ∃ R, ReachL g L R ∧ KeptM g R t ∧ NilOK t)))) := by
  unfold TrimP at h
  split at h
  · next c =>
    obtain ⟨L, hL, h⟩ := h
    rcases h with ⟨h1, rfl⟩ | ⟨h1, R, t, h2, h3, h4, h5, rfl⟩
    · exact ⟨zeroG, 161, rfl, nil_in w, .inr ⟨c, L, hL, .inl ⟨h1, rfl, rfl⟩⟩⟩
    · exact ⟨t, 0, rfl, h4, .inr ⟨c, L, hL, .inr ⟨h1, rfl, R, h2, h3, h5⟩⟩⟩
  · next c => exact ⟨zeroG, 160, h, nil_in w, .inl ⟨by simpa using c, rfl, rfl⟩⟩

set_option maxRecDepth 100000 in
set_option maxHeartbeats 4000000 in
/-- The law of Trim, the reference's Trim being as told. -/
theorem lawTrim_any (HT : ∀ (g : GramM) (W : World), checkB g = true → FitG g → NilOK g → GIn W g → Calls Try.prog 26 #[gramV g] W fun e w' => RTrimP g e w' ∧ Below W.heap.size W w')
    (g : GramM) (w : World) (hg : AGram w g) (hv : vastB g = false) :
    Calls Try.prog 6 #[gramV g] w fun e w' => e = .returned (.bool true) ∧ Below w.heap.size w w' := by
  have hf := hg.fit hv
  have hA : Below w.heap.size w (w.alloc (.cells (gramC g) 27)) := (Below.refl _ w).alloc (Nat.le_refl _) _
  have HB0 := Lib.hid hA
  have HK0 := Lib.hid (Blk.new w 27 (gramC g))
  have H1 := Lib.hid (vast_any g _ (hg.below hA))
  rw [hv] at H1
  have HCp := Lib.hid (fun W (hW : Below w.heap.size w W) => copied_any g W (hg.inn.below hW) hg.nilOK hf.fit)
  have HTr : Hid (∀ m, CopyOf g m → NilOK m → ∀ W, GIn W m → Calls Try.prog 25 #[gramV m] W fun e w' => TrimP g e w' ∧ Below W.heap.size W w') := Lib.hid fun m hc hn W hW => (trim_any m W hW (hc.fit hf) hn).mono fun e w' ⟨h1, h2⟩ => ⟨trimP_copy hc h1, h2⟩
  have HSm : Hid (∀ m, CopyOf g m → ∀ W, GIn W m → GIn W g → Calls Try.prog 18 #[gramV m, gramV g] W fun e w' => e = .returned (.bool true) ∧ Below W.heap.size W w') := Lib.hid fun m hc W h1 h2 => by
    have := rsame_any m g W h1 h2 (hc.fit hf).fit hf.fit
    rwa [sameG_comm, sameG_copy hc] at this
  have HRC := Lib.hid (fun W (hW : GIn W g) => rcheck_any g W hW hf)
  have HRT := Lib.hid (fun (hc : checkB g = true) W (hW : GIn W g) => HT g W hc hf hg.nilOK hW)
  have HGI := Lib.hid (fun W (hW : Below w.heap.size w W) => hg.inn.below hW)
  have HNil : Hid (∀ W, Calls Try.prog 18 #[.agg #[.slice none 0 0, .slice none 0 0, .int .i64 0, .slice none 0 0, .slice none 0 0], .agg #[.slice none 0 0, .slice none 0 0, .int .i64 0, .slice none 0 0, .slice none 0 0]] W fun e w' => e = .returned (.bool true) ∧ Below W.heap.size W w') := Lib.hid fun W => by
    show Calls Try.prog 18 #[gramV zeroG, gramV zeroG] W fun e w' => e = .returned (.bool true) ∧ Below W.heap.size W w'
    have := rsame_any zeroG zeroG W (nil_in W) (nil_in W) nil_fit.fit nil_fit.fit
    rwa [nil_same] at this
  have HF := Lib.hid hf
  clear hg hv hf hA HT
  unfold gramV gramC at HK0 HB0 H1 ⊢
  have l0 := HK0.out.lt
  go_enter Try.func6, Try.ntmps6
  go_wp2_with fail
  with_reducible refine H1.out.mono ?_
  rintro e w1 ⟨rfl, hB1⟩
  have HB1 := Lib.hid (HB0.out.trans (hB1.mono HB0.out.size))
  have HK1 := Lib.hid (HK0.out.below hB1 HK0.out.lt)
  obtain ⟨c0, c1, c2, c3, c4⟩ := cells5' HK1.out
  have l1 := HK1.out.lt
  have HC1 := Lib.hid (HCp.out w1 HB1.out)
  unfold gramV gramC at HC1
  clear hB1 HCp H1 HB0 HK0 l0
  go_wp2_with fail
  with_reducible refine HC1.out.mono ?_
  rintro e w2 ⟨m, rfl, hcp, hgm, hnm, hB2⟩
  have hA2 : Below w2.heap.size w2 (w2.alloc (.cells (gramC m) 27)) := (Below.refl _ w2).alloc (Nat.le_refl _) _
  have hK : LK g m w w2.heap.size (w2.alloc (.cells (gramC m) 27)) := by
    have b2 := HB1.out.trans (hB2.mono HB1.out.size)
    exact ⟨(HK1.out.below hB2 HK1.out.lt).below hA2 (HK1.out.below hB2 HK1.out.lt).lt, Blk.new w2 27 (gramC m), b2.trans (hA2.mono b2.size), (HGI.out w2 b2).below hA2, hgm.below hA2⟩
  have HTm := Lib.hid (HTr.out m hcp hnm)
  have HSg := Lib.hid (HSm.out m hcp)
  have HT1 := Lib.hid (HTm.out _ hK.gm)
  clear hA2 hB2 hgm hnm HC1 c0 c1 c2 c3 c4 l1 HK1 HB1 HGI HTr HSm
  have K2 := Lib.hid hK
  have HCo := Lib.hid hcp
  obtain ⟨c0, c1, c2, c3, c4⟩ := cells5' hK.b0
  obtain ⟨m0, m1, m2, m3, m4⟩ := cells5' hK.b1
  have l0 := hK.b0.lt
  have l1 := hK.b1.lt
  unfold gramV gramC at HT1
  unfold gramC at c0 c1 c2 c3 c4 m0 m1 m2 m3 m4 l0 l1
  clear hK hcp
  go_wp2_with fail
  with_reducible refine HT1.out.mono ?_
  rintro e w3 ⟨hT, hB3⟩
  obtain ⟨t, E, rfl, hgt, hcs⟩ := trimP_cases HF.out hT
  have HCs := Lib.hid hcs
  have hA3 : Below w3.heap.size w3 (w3.alloc (.cells (gramC t) 27)) := (Below.refl _ w3).alloc (Nat.le_refl _) _
  have hK3 : LT g m t w w2.heap.size w3.heap.size (w3.alloc (.cells (gramC t) 27)) := by
    have k := K2.out.below hB3
    exact ⟨k.b0.below hA3 k.b0.lt, k.b1.below hA3 k.b1.lt, Blk.new w3 27 (gramC t), k.bl.trans (hA3.mono k.bl.size), k.gg.below hA3, k.gm.below hA3, hgt.below hA3⟩
  clear hT hcs hgt hA3 hB3 HT1 K2 c0 c1 c2 c3 c4 m0 m1 m2 m3 m4 l0 l1
  have K3 := Lib.hid hK3
  have HW := Lib.hid (HSg.out _ hK3.gm hK3.gg)
  obtain ⟨c0, c1, c2, c3, c4⟩ := cells5' hK3.b0
  obtain ⟨m0, m1, m2, m3, m4⟩ := cells5' hK3.b1
  obtain ⟨t0, t1, t2, t3, t4⟩ := cells5' hK3.b2
  have l0 := hK3.b0.lt
  have l1 := hK3.b1.lt
  have l2 := hK3.b2.lt
  unfold gramV gramC at HW
  unfold gramC at c0 c1 c2 c3 c4 m0 m1 m2 m3 m4 t0 t1 t2 t3 t4 l0 l1 l2
  clear hK3
  unfold gramV gramC
  dsimp only
  go_wp2_with fail
  with_reducible refine HW.out.mono ?_
  rintro e w4 ⟨rfl, hB4⟩
  have K4 := Lib.hid (K3.out.below hB4)
  clear hB4 HW c0 c1 c2 c3 c4 m0 m1 m2 m3 m4 t0 t1 t2 t3 t4 l0 l1 l2
  obtain ⟨c0, c1, c2, c3, c4⟩ := cells5' K4.out.b0
  obtain ⟨m0, m1, m2, m3, m4⟩ := cells5' K4.out.b1
  obtain ⟨t0, t1, t2, t3, t4⟩ := cells5' K4.out.b2
  have l0 := K4.out.b0.lt
  have l1 := K4.out.b1.lt
  have l2 := K4.out.b2.lt
  have HW := Lib.hid (HRC.out w4 K4.out.gg)
  unfold gramV gramC at HW
  go_wp2_with fail
  with_reducible refine HW.out.mono ?_
  rintro e w5 ⟨rfl, hB5⟩
  have K5 := Lib.hid (K4.out.below hB5)
  clear hB5 HW c0 c1 c2 c3 c4 m0 m1 m2 m3 m4 t0 t1 t2 t3 t4 l0 l1 l2
  obtain ⟨c0, c1, c2, c3, c4⟩ := cells5' K5.out.b0
  obtain ⟨m0, m1, m2, m3, m4⟩ := cells5' K5.out.b1
  obtain ⟨t0, t1, t2, t3, t4⟩ := cells5' K5.out.b2
  have l0 := K5.out.b0.lt
  have l1 := K5.out.b1.lt
  have l2 := K5.out.b2.lt
  rcases HCs.out with ⟨hc, rfl, rfl⟩ | ⟨hc, L, hL, hcs⟩
  · have e0 : errI (checkB g) = 160 := by rw [hc]; rfl
    rw [e0]
    have HW := Lib.hid (HNil.out w5)
    unfold zeroG at t0 t1 t2 t3 t4
    go_wp2_with fail
    with_reducible refine HW.out.mono ?_
    rintro e wa ⟨rfl, hBa⟩
    have HBa := Lib.hid (K5.out.bl.trans (hBa.mono K5.out.bl.size))
    clear hBa HW c0 c1 c2 c3 c4 m0 m1 m2 m3 m4 t0 t1 t2 t3 t4 l0 l1 l2 
    go_wp2_with fail
    with_reducible refine (known_any wa).mono ?_
    rintro e wb ⟨rfl, hBb⟩
    go_wp2
    go_ret
    exact ⟨rfl, HBa.out.trans (hBb.mono HBa.out.size)⟩
  · have e0 : errI (checkB g) = 0 := by rw [hc]; rfl
    rw [e0]
    have HW := Lib.hid (HRT.out hc w5 K5.out.gg)
    unfold gramV gramC at HW
    have HHc := Lib.hid hc
    have HLv := Lib.hid hL
    have HCs2 := Lib.hid hcs
    clear HCs hc hL hcs e0
    go_wp2_with fail
    with_reducible refine HW.out.mono ?_
    rintro e w6 ⟨⟨L', hL', hr⟩, hB6⟩
    obtain rfl := HLv.out.unique hL'
    clear hL'
    have K6 := Lib.hid (K5.out.below hB6)
    clear hB6 HW c0 c1 c2 c3 c4 m0 m1 m2 m3 m4 t0 t1 t2 t3 t4 l0 l1 l2
    obtain ⟨c0, c1, c2, c3, c4⟩ := cells5' K6.out.b0
    obtain ⟨m0, m1, m2, m3, m4⟩ := cells5' K6.out.b1
    obtain ⟨t0, t1, t2, t3, t4⟩ := cells5' K6.out.b2
    have l0 := K6.out.b0.lt
    have l1 := K6.out.b1.lt
    have l2 := K6.out.b2.lt
    rcases HCs2.out with ⟨hst, rfl, rfl⟩ | ⟨hst, rfl, R, hR, hKt, hnt⟩
    · have hr2 : e = .returned (.tuple #[gramV zeroG, .bool false]) := by
        rcases hr with ⟨_, h⟩ | ⟨h, _⟩
        · exact h
        · rw [hst] at h; cases h
      subst hr2
      clear hr hst
      have HW := Lib.hid (HNil.out (w6.alloc (.cells #[.slice none 0 0, .slice none 0 0, .int .i64 0, .slice none 0 0, .slice none 0 0] 27)))
      have hA6 : Below w6.heap.size w6 (w6.alloc (.cells #[.slice none 0 0, .slice none 0 0, .int .i64 0, .slice none 0 0, .slice none 0 0] 27)) := (Below.refl _ w6).alloc (Nat.le_refl _) _
      have K7 := Lib.hid (K6.out.below hA6)
      have q0 := cells5' K7.out.b2
      obtain ⟨t0, t1, t2, t3, t4⟩ := q0
      have l2 := K7.out.b2.lt
      clear hA6
      unfold gramV gramC zeroG
      unfold zeroG at t0 t1 t2 t3 t4
      dsimp only
      go_wp2_with fail
      with_reducible refine HW.out.mono ?_
      rintro e wa ⟨rfl, hBa⟩
      have HBa := Lib.hid (K7.out.bl.trans (hBa.mono K7.out.bl.size))
      clear hBa HW c0 c1 c2 c3 c4 m0 m1 m2 m3 m4 t0 t1 t2 t3 t4 l0 l1 l2 
      go_wp2_with fail
      with_reducible refine (known_any wa).mono ?_
      rintro e wb ⟨rfl, hBb⟩
      go_wp2
      go_ret
      exact ⟨rfl, HBa.out.trans (hBb.mono HBa.out.size)⟩
    · obtain ⟨R', t', hR', hKt', hgt', hnt', rfl⟩ : ∃ R' t', ReachL g L R' ∧ KeptM g R' t' ∧ GIn w6 t' ∧ NilOK t' ∧ e = .returned (.tuple #[gramV t', .bool true]) := by
        rcases hr with ⟨h, _⟩ | ⟨_, h⟩
        · rw [hst] at h; cases h
        · obtain ⟨a, b, c⟩ := h; exact ⟨a, b, c⟩
      obtain rfl := hR.unique hR'
      have ft := kept_fit HF.out (mayB_of HHc.out) hKt
      have ft' := kept_fit HF.out (mayB_of HHc.out) hKt'
      have HW0 := Lib.hid (wellP_kept HHc.out HLv.out hst hR hKt)
      have HTA := Lib.hid (fun e W (h : TrimP t e W) => trim_again HHc.out HLv.out hst hR hKt h)
      have hsame : sameG t t' = true := sameG_copy (keptM_unique hKt hKt')
      have hA6 : Below w6.heap.size w6 (w6.alloc (.cells (gramC t') 27)) := (Below.refl _ w6).alloc (Nat.le_refl _) _
      have K7 := Lib.hid (K6.out.below hA6)
      have B7 := Lib.hid (Blk.new w6 27 (gramC t'))
      have G7 := Lib.hid (hgt'.below hA6)
      have HFt := Lib.hid ft
      have HFt' := Lib.hid ft'
      have HNt := Lib.hid hnt
      have HSame := Lib.hid hsame
      clear hA6 hgt' hsame hnt hnt' ft ft' hKt hKt' hR hR' hr hst HRT HRC HSg HTm HCs2 HHc HLv HCo c0 c1 c2 c3 c4 m0 m1 m2 m3 m4 t0 t1 t2 t3 t4 l0 l1 l2
      obtain ⟨t0, t1, t2, t3, t4⟩ := cells5' K7.out.b2
      have l2 := K7.out.b2.lt
      have HW : Hid (Calls Try.prog 13 #[gramV t] (w6.alloc (.cells (gramC t') 27)) fun e w' => e = .returned (.tuple #[.int .i64 0, .int .i64 0]) ∧ Below (w6.alloc (.cells (gramC t') 27)).heap.size (w6.alloc (.cells (gramC t') 27)) w') := Lib.hid ((well_any t _ K7.out.gh HFt.out).mono fun e w' ⟨r, h1, h2, h3⟩ => ⟨by rw [h2, wellP_unique h1 HW0.out], h3⟩)
      unfold gramV gramC at HW
      unfold gramC at t0 t1 t2 t3 t4 l2
      unfold gramV gramC
      dsimp only
      go_wp2_with fail
      with_reducible refine HW.out.mono ?_
      rintro e w8 ⟨rfl, hB8⟩
      have hB8' : Below (w6.alloc (.cells (gramC t') 27)).heap.size (w6.alloc (.cells (gramC t') 27)) w8 := hB8
      have K8 := Lib.hid (K7.out.below hB8')
      have B8 := Lib.hid (B7.out.below hB8' B7.out.lt)
      have G8 := Lib.hid (G7.out.below hB8')
      clear hB8 hB8' HW t0 t1 t2 t3 t4 l2 K7 B7 G7
      obtain ⟨t0, t1, t2, t3, t4⟩ := cells5' K8.out.b2
      have l2 := K8.out.b2.lt
      have HW : Hid (Calls Try.prog 25 #[gramV t] w8 fun e w' => (∃ h2, CopyOf t h2 ∧ GIn w' h2 ∧ NilOK h2 ∧ e = .returned (.tuple #[gramV h2, .int .i64 0])) ∧ Below w8.heap.size w8 w') := Lib.hid ((trim_any t w8 K8.out.gh HFt.out HNt.out).mono fun e w' ⟨h1, h2⟩ => ⟨HTA.out e w' h1, h2⟩)
      unfold gramV gramC at HW
      go_wp2_with fail
      with_reducible refine HW.out.mono ?_
      rintro e w9 ⟨⟨s, hcs, hgs, _, rfl⟩, hB9⟩
      have hA9 : Below w9.heap.size w9 (w9.alloc (.cells (gramC s) 27)) := (Below.refl _ w9).alloc (Nat.le_refl _) _
      have K10 := Lib.hid ((K8.out.below hB9).below hA9)
      have B10 := Lib.hid ((B8.out.below hB9 B8.out.lt).below hA9 (B8.out.below hB9 B8.out.lt).lt)
      have G10 := Lib.hid ((G8.out.below hB9).below hA9)
      have C10 := Lib.hid (Blk.new w9 27 (gramC s))
      have H10 := Lib.hid (hgs.below hA9)
      have HFs := Lib.hid (hcs.fit HFt.out)
      have HSame2 : Hid (sameG s t = true) := Lib.hid (by rw [sameG_comm]; exact sameG_copy hcs)
      clear hA9 hB9 HW t0 t1 t2 t3 t4 l2 K8 B8 G8 hcs hgs
      obtain ⟨t0, t1, t2, t3, t4⟩ := cells5' K10.out.b2
      obtain ⟨p0, p1, p2, p3, p4⟩ := cells5' B10.out
      obtain ⟨u0, u1, u2, u3, u4⟩ := cells5' C10.out
      have l2 := K10.out.b2.lt
      have l3 := B10.out.lt
      have l4 := C10.out.lt
      have HW := Lib.hid (rsame_any t t' _ K10.out.gh G10.out HFt.out.fit HFt'.out.fit)
      rw [HSame.out] at HW
      unfold gramV gramC at HW
      unfold gramC at t0 t1 t2 t3 t4 p0 p1 p2 p3 p4 u0 u1 u2 u3 u4 l2 l3 l4
      dsimp only
      go_wp2_with fail
      with_reducible refine HW.out.mono ?_
      rintro e w11 ⟨rfl, hB11⟩
      have hB11' : Below (w9.alloc (.cells (gramC s) 27)).heap.size (w9.alloc (.cells (gramC s) 27)) w11 := hB11
      have K11 := Lib.hid (K10.out.below hB11')
      have C11 := Lib.hid (C10.out.below hB11' C10.out.lt)
      have H11 := Lib.hid (H10.out.below hB11')
      clear hB11 hB11' HW t0 t1 t2 t3 t4 p0 p1 p2 p3 p4 u0 u1 u2 u3 u4 l2 l3 l4 K10 B10 G10 C10 H10
      obtain ⟨t0, t1, t2, t3, t4⟩ := cells5' K11.out.b2
      obtain ⟨u0, u1, u2, u3, u4⟩ := cells5' C11.out
      have l2 := K11.out.b2.lt
      have l4 := C11.out.lt
      have HW := Lib.hid (rsame_any s t w11 H11.out K11.out.gh HFs.out.fit HFt.out.fit)
      rw [HSame2.out] at HW
      unfold gramV gramC at HW
      go_wp2_with fail
      with_reducible refine HW.out.mono ?_
      rintro e wa ⟨rfl, hBa⟩
      have HBa := Lib.hid (K11.out.bl.trans (hBa.mono K11.out.bl.size))
      clear hBa HW t0 t1 t2 t3 t4 u0 u1 u2 u3 u4 l2 l4 K11 C11 H11
      go_wp2_with fail
      with_reducible refine (known_any wa).mono ?_
      rintro e wb ⟨rfl, hBb⟩
      go_wp2
      go_ret
      exact ⟨rfl, HBa.out.trans (hBb.mono HBa.out.size)⟩

set_option maxRecDepth 100000 in
set_option maxHeartbeats 1000000 in
theorem lawTrim_vast (g : GramM) (w : World) (hg : AGram w g) (hv : vastB g = true) : Calls Try.prog 6 #[gramV g] w fun e w' => e = .returned (.bool true) ∧ Below w.heap.size w w' := by
  have hA : Below w.heap.size w (w.alloc (.cells (gramC g) 27)) := (Below.refl _ w).alloc (Nat.le_refl _) _
  have HB0 := Lib.hid hA
  have H1 := Lib.hid (vast_any g _ (hg.below hA))
  rw [hv] at H1
  clear hg hA hv
  unfold gramV gramC at *
  go_enter Try.func6, Try.ntmps6
  go_wp2_with fail
  with_reducible refine H1.out.mono ?_
  rintro e w1 ⟨rfl, hB1⟩
  have HB1 := Lib.hid (HB0.out.trans (hB1.mono HB0.out.size))
  clear hB1 HB0 H1
  go_wp2_with fail
  with_reducible refine (known_any w1).mono ?_
  rintro e w2 ⟨rfl, hB2⟩
  go_wp2
  go_ret
  exact ⟨rfl, HB1.out.trans (hB2.mono HB1.out.size)⟩
end Go.Proofs.Ytiihdbchchnncaa
end
section
namespace Go.Proofs.Ytiihdbchchnncaa
open Go Go.RowKit

/-- A block of places, of which the first k are told. -/
def PLn (w : World) (B n k : Nat) (p : Nat → Bool) : Prop := ∃ cs : Array Value, Blk w B 3 cs ∧ cs.size = n ∧ (∀ i, i < k → cs[i]? = some (.int .i64 (plI p i))) ∧ ∀ i, i < n → ∃ z : Int, cs[i]? = some (.int .i64 z)
theorem PLn.to {w W : World} {B n k : Nat} {p : Nat → Bool} (h : PLn w B n k p) (e : W.heap[B]? = w.heap[B]?) : PLn W B n k p := by
  obtain ⟨cs, h1, h2⟩ := h
  exact ⟨cs, e.trans h1, h2⟩
theorem PLn.lt {w : World} {B n k : Nat} {p : Nat → Bool} (h : PLn w B n k p) : B < w.heap.size := by
  obtain ⟨cs, h1, _⟩ := h
  exact h1.lt
theorem PLn.cell {w : World} {B n k : Nat} {p : Nat → Bool} (h : PLn w B n k p) {i : Nat} (hi : i < k) : w.cell? ⟨B, i, none⟩ = some (.int .i64 (plI p i)) := by
  obtain ⟨cs, h1, _, h3, _⟩ := h
  rw [h1.cell i, h3 i hi]
theorem PLn.some {w : World} {B n k : Nat} {p : Nat → Bool} (h : PLn w B n k p) {i : Nat} (hi : i < n) : ∃ z : Int, w.cell? ⟨B, i, none⟩ = some (.int .i64 z) := by
  obtain ⟨cs, h1, _, _, h4⟩ := h
  obtain ⟨z, hz⟩ := h4 i hi
  exact ⟨z, by rw [h1.cell i, hz]⟩
theorem PLn.frozen {w : World} {B n k : Nat} {p : Nat → Bool} (h : PLn w B n k p) (i : Nat) : w.frozen? ⟨B, i, none⟩ = false := by
  obtain ⟨cs, h1, _⟩ := h
  exact h1.frozen i
theorem PLn.any {w : World} {B n k : Nat} {p : Nat → Bool} (h : PLn w B n k p) (z : Int) : PLn (w.setCell ⟨B, k, none⟩ (.int .i64 z)) B n k p := by
  obtain ⟨cs, h1, h2, h3, h4⟩ := h
  refine ⟨_, h1.set k _, by simp [h2], fun i hi => ?_, fun i hi => ?_⟩
  · rw [Array.getElem?_setIfInBounds_ne (by omega)]
    exact h3 i hi
  · by_cases e : k = i
    · subst e; exact ⟨z, set_self _ _ _ (by omega)⟩
    · rw [Array.getElem?_setIfInBounds_ne e]
      exact h4 i hi
theorem PLn.put {w : World} {B n k : Nat} {p : Nat → Bool} (h : PLn w B n k p) (hk : k < n) {z : Int} (hz : z = plI p k) : PLn (w.setCell ⟨B, k, none⟩ (.int .i64 z)) B n (k + 1) p := by
  obtain ⟨cs, h1, h2, h3, h4⟩ := h
  refine ⟨_, h1.set k _, by simp [h2], fun i hi => ?_, fun i hi => ?_⟩
  · by_cases e : k = i
    · subst e; rw [set_self _ _ _ (by omega), hz]
    · rw [Array.getElem?_setIfInBounds_ne e]
      exact h3 i (by omega)
  · by_cases e : k = i
    · subst e; exact ⟨z, set_self _ _ _ (by omega)⟩
    · rw [Array.getElem?_setIfInBounds_ne e]
      exact h4 i hi
/-- A row of zeros, made. -/
theorem PLn.made {w : World} {B n : Nat} (p : Nat → Bool) (h : Blk w B 3 (Array.replicate n (.int .i64 0))) : PLn w B n 0 p :=
  ⟨_, h, by simp, fun i hi => by omega, fun i hi => ⟨0, by simp [hi]⟩⟩

/-- What the reference's Trim's blocks hold. -/
structure TS (g : GramM) (L R : List Bool) (w : World) (Bm Bi Bs Bp Bo ks kp : Nat) (st : Int) (v0 v1 v3 v4 : Value) (ss : List ByteArray) (ps : List ProdM) (fs : List ForM) (ws : List FolM) (wr : World) : Prop where
  num : w.heap.size + 1 < Bm ∧ w.heap.size + 1 < Bi ∧ Bm < Bs ∧ Bi < Bs ∧ Bm < Bp ∧ Bi < Bp ∧ Bs < Bo ∧ Bp < Bo ∧ Bs ≠ Bp
  bg : Blk wr w.heap.size 27 (gramC g)
  br : Blk wr (w.heap.size + 1) 27 #[.slice none 0 0, .slice none 0 0, .int .i64 0, .slice none 0 0, .slice none 0 0]
  bm : Blk wr Bm 4 (bools L)
  bi : Blk wr Bi 4 (bools R)
  bs : PLn wr Bs g.sorts.length ks (sP R)
  bp : PLn wr Bp g.prods.length kp (pP g R)
  bo : Blk wr Bo 27 #[v0, v1, .int .i64 st, v3, v4]
  b : Below w.heap.size w wr
  r0 : wr.ownsRow (Bo + 1) 9 1 v0 ss.length (cellsL strC ss)
  r1 : wr.ownsRow (Bo + 1) 46 7 v1 ps.length (cellsL prodC ps)
  r3 : wr.ownsRow (Bo + 1) 78 3 v3 fs.length (cellsL forC fs)
  r4 : wr.ownsRow (Bo + 1) 80 5 v4 ws.length (cellsL folC ws)
  rs : ∀ x, x ∈ ps → wr.ownsRow (Bo + 1) 68 6 (.slice x.ra x.right.length x.rc) x.right.length (cellsL symC x.right)
  lt : Bo + 1 ≤ wr.heap.size

section
variable {g : GramM} {L R : List Bool} {w : World} {Bm Bi Bs Bp Bo ks kp : Nat} {st : Int} {v0 v1 v3 v4 : Value} {ss : List ByteArray} {ps : List ProdM} {fs : List ForM} {ws : List FolM} {wr W : World}
/-- What lies lower than the rows, but for one block. -/
theorem TS.low (h : TS g L R w Bm Bi Bs Bp Bo ks kp st v0 v1 v3 v4 ss ps fs ws wr) (e : ∀ k, k < Bo → W.heap[k]? = wr.heap[k]?) :
    Blk W w.heap.size 27 (gramC g) ∧ Blk W (w.heap.size + 1) 27 #[.slice none 0 0, .slice none 0 0, .int .i64 0, .slice none 0 0, .slice none 0 0] ∧ Blk W Bm 4 (bools L) ∧ Blk W Bi 4 (bools R) ∧ PLn W Bs g.sorts.length ks (sP R) ∧ PLn W Bp g.prods.length kp (pP g R) := by
  obtain ⟨a1, a2, a3, a4, a5, a6, a7, a8, a9⟩ := h.num
  exact ⟨(e _ (by omega)).trans h.bg, (e _ (by omega)).trans h.br, (e _ (by omega)).trans h.bm, (e _ (by omega)).trans h.bi, h.bs.to (e _ (by omega)), h.bp.to (e _ (by omega))⟩
theorem TS.below (h : TS g L R w Bm Bi Bs Bp Bo ks kp st v0 v1 v3 v4 ss ps fs ws wr) (hB : Below wr.heap.size wr W) : TS g L R w Bm Bi Bs Bp Bo ks kp st v0 v1 v3 v4 ss ps fs ws W := by
  have hl := h.lt
  obtain ⟨c1, c2, c3, c4, c5, c6⟩ := h.low (W := W) (fun k hk => hB.block k (by omega))
  exact ⟨h.num, c1, c2, c3, c4, c5, c6, h.bo.below hB h.bo.lt, h.b.trans (hB.mono h.b.size), own_below h.r0 hB (Nat.le_refl _), own_below h.r1 hB (Nat.le_refl _), own_below h.r3 hB (Nat.le_refl _), own_below h.r4 hB (Nat.le_refl _),
    fun x hx => own_below (h.rs x hx) hB (Nat.le_refl _), Nat.le_trans h.lt hB.size⟩
/-- An append to one of the rows, and a store into the box. -/
theorem TS.app {v' : Value} {e size n : Nat} {xs : List Value} (h : TS g L R w Bm Bi Bs Bp Bo ks kp st v0 v1 v3 v4 ss ps fs ws wr) (hv : wr.ownsRow (Bo + 1) e size v' n xs) (hg : wr.grownBy W v'.ownBlock) (i : Nat) (u : Value) :
    (∀ k, k < Bo → (W.setCell ⟨Bo, i, none⟩ u).heap[k]? = wr.heap[k]?) ∧ Blk (W.setCell ⟨Bo, i, none⟩ u) Bo 27 ((#[v0, v1, .int .i64 st, v3, v4] : Array Value).setIfInBounds i u) ∧
    Below w.heap.size w (W.setCell ⟨Bo, i, none⟩ u) ∧ Bo + 1 ≤ (W.setCell ⟨Bo, i, none⟩ u).heap.size := by
  have hl := h.lt
  obtain ⟨a1, a2, a3, a4, a5, a6, a7, a8, a9⟩ := h.num
  refine ⟨fun k hk => ?_, (h.bo.kept hg (low_ne hv (by omega))).set i u, ?_, ?_⟩
  · rw [Below.heap_setCell W ⟨Bo, i, none⟩ u k (by show k ≠ Bo; omega)]
    exact hg.block k (by omega) (low_ne hv (by omega))
  · refine (h.b.grown hg h.b.size fun j ej => ?_).setCell (p := ⟨Bo, i, none⟩) (by show w.heap.size ≤ Bo; omega) _
    rcases hv.2 with ⟨rfl, _⟩ | ⟨q, cap, cur, rfl, hq, _⟩
    · cases ej
    · have : q = j := by simpa [Value.ownBlock] using ej
      omega
  · rw [World.size_setCell]; exact Nat.le_trans h.lt hg.size
theorem TS.push0 (h : TS g L R w Bm Bi Bs Bp Bo ks kp st v0 v1 v3 v4 ss ps fs ws wr) (s : ByteArray) (v : Value) (hg : wr.grownBy W v0.ownBlock) (hn : W.ownsRow (Bo + 1) 9 1 v (ss.length + 1) (cellsL strC ss ++ [.string s])) :
    TS g L R w Bm Bi Bs Bp Bo ks kp st v v1 v3 v4 (ss ++ [s]) ps fs ws (W.setCell ⟨Bo, 0, none⟩ v) := by
  obtain ⟨b1, b2, b3, b4⟩ := h.app h.r0 hg 0 v
  obtain ⟨c1, c2, c3, c4, c5, c6⟩ := h.low b1
  have hb : Bo < Bo + 1 := Nat.lt_succ_self _
  refine ⟨h.num, c1, c2, c3, c4, c5, c6, by simpa using b2, b3, own_put (by rw [cellsL_snoc, List.length_append]; exact hn) hb _, own_put (own_other h.r1 h.r0 (by decide) hg) hb _, own_put (own_other h.r3 h.r0 (by decide) hg) hb _, own_put (own_other h.r4 h.r0 (by decide) hg) hb _,
    fun x hx => own_put (own_other (h.rs x hx) h.r0 (by decide) hg) hb _, b4⟩
theorem TS.push1 (h : TS g L R w Bm Bi Bs Bp Bo ks kp st v0 v1 v3 v4 ss ps fs ws wr) (s : ProdM) (v : Value) (hs : wr.ownsRow (Bo + 1) 68 6 (.slice s.ra s.right.length s.rc) s.right.length (cellsL symC s.right)) (hg : wr.grownBy W v1.ownBlock)
    (hn : W.ownsRow (Bo + 1) 46 7 v (ps.length + 1) (cellsL prodC ps ++ (prodC s).toList)) :
    TS g L R w Bm Bi Bs Bp Bo ks kp st v0 v v3 v4 ss (ps ++ [s]) fs ws (W.setCell ⟨Bo, 1, none⟩ v) := by
  obtain ⟨b1, b2, b3, b4⟩ := h.app h.r1 hg 1 v
  obtain ⟨c1, c2, c3, c4, c5, c6⟩ := h.low b1
  have hb : Bo < Bo + 1 := Nat.lt_succ_self _
  refine ⟨h.num, c1, c2, c3, c4, c5, c6, by simpa using b2, b3, own_put (own_other h.r0 h.r1 (by decide) hg) hb _, own_put (by rw [cellsL_snoc, List.length_append]; exact hn) hb _, own_put (own_other h.r3 h.r1 (by decide) hg) hb _, own_put (own_other h.r4 h.r1 (by decide) hg) hb _,
    fun x hx => ?_, b4⟩
  rcases List.mem_append.1 hx with hx | hx
  · exact own_put (own_other (h.rs x hx) h.r1 (by decide) hg) hb _
  · simp at hx; subst hx; exact own_put (own_other hs h.r1 (by decide) hg) hb _
theorem TS.push3 (h : TS g L R w Bm Bi Bs Bp Bo ks kp st v0 v1 v3 v4 ss ps fs ws wr) (s : ForM) (v : Value) (hg : wr.grownBy W v3.ownBlock) (hn : W.ownsRow (Bo + 1) 78 3 v (fs.length + 1) (cellsL forC fs ++ (forC s).toList)) :
    TS g L R w Bm Bi Bs Bp Bo ks kp st v0 v1 v v4 ss ps (fs ++ [s]) ws (W.setCell ⟨Bo, 3, none⟩ v) := by
  obtain ⟨b1, b2, b3, b4⟩ := h.app h.r3 hg 3 v
  obtain ⟨c1, c2, c3, c4, c5, c6⟩ := h.low b1
  have hb : Bo < Bo + 1 := Nat.lt_succ_self _
  exact ⟨h.num, c1, c2, c3, c4, c5, c6, by simpa using b2, b3, own_put (own_other h.r0 h.r3 (by decide) hg) hb _, own_put (own_other h.r1 h.r3 (by decide) hg) hb _, own_put (by rw [cellsL_snoc, List.length_append]; exact hn) hb _, own_put (own_other h.r4 h.r3 (by decide) hg) hb _,
    fun x hx => own_put (own_other (h.rs x hx) h.r3 (by decide) hg) hb _, b4⟩
theorem TS.push4 (h : TS g L R w Bm Bi Bs Bp Bo ks kp st v0 v1 v3 v4 ss ps fs ws wr) (s : FolM) (v : Value) (hg : wr.grownBy W v4.ownBlock) (hn : W.ownsRow (Bo + 1) 80 5 v (ws.length + 1) (cellsL folC ws ++ (folC s).toList)) :
    TS g L R w Bm Bi Bs Bp Bo ks kp st v0 v1 v3 v ss ps fs (ws ++ [s]) (W.setCell ⟨Bo, 4, none⟩ v) := by
  obtain ⟨b1, b2, b3, b4⟩ := h.app h.r4 hg 4 v
  obtain ⟨c1, c2, c3, c4, c5, c6⟩ := h.low b1
  have hb : Bo < Bo + 1 := Nat.lt_succ_self _
  exact ⟨h.num, c1, c2, c3, c4, c5, c6, by simpa using b2, b3, own_put (own_other h.r0 h.r4 (by decide) hg) hb _, own_put (own_other h.r1 h.r4 (by decide) hg) hb _, own_put (own_other h.r3 h.r4 (by decide) hg) hb _, own_put (by rw [cellsL_snoc, List.length_append]; exact hn) hb _,
    fun x hx => own_put (own_other (h.rs x hx) h.r4 (by decide) hg) hb _, b4⟩
/-- A store into the sorts' places. -/
theorem TS.putS (h : TS g L R w Bm Bi Bs Bp Bo ks kp st v0 v1 v3 v4 ss ps fs ws wr) {i ks' : Nat} {u : Value} (hs : PLn (wr.setCell ⟨Bs, i, none⟩ u) Bs g.sorts.length ks' (sP R)) :
    TS g L R w Bm Bi Bs Bp Bo ks' kp st v0 v1 v3 v4 ss ps fs ws (wr.setCell ⟨Bs, i, none⟩ u) := by
  obtain ⟨a1, a2, a3, a4, a5, a6, a7, a8, a9⟩ := h.num
  have hb : Bs < Bo + 1 := by omega
  refine ⟨h.num, h.bg.other (a := ⟨Bs, i, none⟩) (by show w.heap.size ≠ Bs; omega) _, h.br.other (a := ⟨Bs, i, none⟩) (by show w.heap.size + 1 ≠ Bs; omega) _, h.bm.other (a := ⟨Bs, i, none⟩) (by show Bm ≠ Bs; omega) _, h.bi.other (a := ⟨Bs, i, none⟩) (by show Bi ≠ Bs; omega) _,
    hs, h.bp.to (Below.heap_setCell wr ⟨Bs, i, none⟩ u Bp (by show Bp ≠ Bs; omega)), h.bo.other (a := ⟨Bs, i, none⟩) (by show Bo ≠ Bs; omega) _, h.b.setCell (p := ⟨Bs, i, none⟩) (by show w.heap.size ≤ Bs; omega) _,
    own_put h.r0 hb _, own_put h.r1 hb _, own_put h.r3 hb _, own_put h.r4 hb _, fun x hx => own_put (h.rs x hx) hb _, by rw [World.size_setCell]; exact h.lt⟩
theorem TS.putP (h : TS g L R w Bm Bi Bs Bp Bo ks kp st v0 v1 v3 v4 ss ps fs ws wr) {i kp' : Nat} {u : Value} (hs : PLn (wr.setCell ⟨Bp, i, none⟩ u) Bp g.prods.length kp' (pP g R)) :
    TS g L R w Bm Bi Bs Bp Bo ks kp' st v0 v1 v3 v4 ss ps fs ws (wr.setCell ⟨Bp, i, none⟩ u) := by
  obtain ⟨a1, a2, a3, a4, a5, a6, a7, a8, a9⟩ := h.num
  have hb : Bp < Bo + 1 := by omega
  refine ⟨h.num, h.bg.other (a := ⟨Bp, i, none⟩) (by show w.heap.size ≠ Bp; omega) _, h.br.other (a := ⟨Bp, i, none⟩) (by show w.heap.size + 1 ≠ Bp; omega) _, h.bm.other (a := ⟨Bp, i, none⟩) (by show Bm ≠ Bp; omega) _, h.bi.other (a := ⟨Bp, i, none⟩) (by show Bi ≠ Bp; omega) _,
    h.bs.to (Below.heap_setCell wr ⟨Bp, i, none⟩ u Bs (by show Bs ≠ Bp; omega)), hs, h.bo.other (a := ⟨Bp, i, none⟩) (by show Bo ≠ Bp; omega) _, h.b.setCell (p := ⟨Bp, i, none⟩) (by show w.heap.size ≤ Bp; omega) _,
    own_put h.r0 hb _, own_put h.r1 hb _, own_put h.r3 hb _, own_put h.r4 hb _, fun x hx => own_put (h.rs x hx) hb _, by rw [World.size_setCell]; exact h.lt⟩
/-- The new Start. -/
theorem TS.start (h : TS g L R w Bm Bi Bs Bp Bo ks kp st v0 v1 v3 v4 ss ps fs ws wr) (z : Int) : TS g L R w Bm Bi Bs Bp Bo ks kp z v0 v1 v3 v4 ss ps fs ws (wr.setCell ⟨Bo, 2, none⟩ (.int .i64 z)) := by
  obtain ⟨a1, a2, a3, a4, a5, a6, a7, a8, a9⟩ := h.num
  have hb : Bo < Bo + 1 := by omega
  obtain ⟨c1, c2, c3, c4, c5, c6⟩ := h.low (W := wr.setCell ⟨Bo, 2, none⟩ (.int .i64 z)) (fun k hk => Below.heap_setCell wr ⟨Bo, 2, none⟩ _ k (by show k ≠ Bo; omega))
  exact ⟨h.num, c1, c2, c3, c4, c5, c6, by simpa using h.bo.set 2 (.int .i64 z), h.b.setCell (p := ⟨Bo, 2, none⟩) (by show w.heap.size ≤ Bo; omega) _,
    own_put h.r0 hb _, own_put h.r1 hb _, own_put h.r3 hb _, own_put h.r4 hb _, fun x hx => own_put (h.rs x hx) hb _, by rw [World.size_setCell]; exact h.lt⟩
theorem TS.boxo (h : TS g L R w Bm Bi Bs Bp Bo ks kp st v0 v1 v3 v4 ss ps fs ws wr) {v' : Value} {e size n : Nat} {xs : List Value} (hv : wr.ownsRow (Bo + 1) e size v' n xs) (hg : wr.grownBy W v'.ownBlock) : Blk W Bo 27 #[v0, v1, .int .i64 st, v3, v4] :=
  h.bo.kept hg (low_ne hv (Nat.lt_succ_self _))
theorem TS.fin {sa pa fa wa : Option Addr} {sc pc fc wc : Nat} (h : TS g L R w Bm Bi Bs Bp Bo ks kp st (.slice sa ss.length sc) (.slice pa ps.length pc) (.slice fa fs.length fc) (.slice wa ws.length wc) ss ps fs ws wr)
    (hW : W = put5 wr (w.heap.size + 1) (.slice sa ss.length sc) (.slice pa ps.length pc) (.int .i64 st) (.slice fa fs.length fc) (.slice wa ws.length wc)) :
    GIn W ⟨sa, sc, ss, pa, pc, ps, st, fa, fc, fs, wa, wc, ws⟩ ∧ NilOK ⟨sa, sc, ss, pa, pc, ps, st, fa, fc, fs, wa, wc, ws⟩ := by
  obtain ⟨a1, a2, a3, a4, a5, a6, a7, a8, a9⟩ := h.num
  have hN : w.heap.size + 1 < Bo + 1 := by omega
  have put : ∀ {e size n : Nat} {v : Value} {xs : List Value}, wr.ownsRow (Bo + 1) e size v n xs → W.ownsRow (Bo + 1) e size v n xs := fun h => by
    rw [hW]
    exact own_put (own_put (own_put (own_put (own_put h hN _) hN _) hN _) hN _) hN _
  have hnil : ∀ {α : Type} {cs : α → Array Value} {k e : Nat} {a : Option Addr} {c : Nat} {l : List α} (_ : ∀ x, (cs x).size = k), W.ownsRow (Bo + 1) e k (.slice a l.length c) l.length (cellsL cs l) → a = none → c = 0 := fun hk h => (own_rowS (G := NoG) hk h (fun _ _ => trivial)).2
  have hrs : ∀ x, x ∈ ps → RowSym W x.ra x.right := fun x hx => (own_rowS (cs := symC) (fun _ => rfl) (put (h.rs x hx)) (fun _ _ => trivial)).1
  exact ⟨⟨(own_rowS (cs := strC) (G := NoG) (fun _ => rfl) (put h.r0) (fun _ _ => trivial)).1, (own_rowS (cs := prodC) (G := ProdIn) (fun _ => rfl) (put h.r1) hrs).1,
      (own_rowS (cs := forC) (G := NoG) (fun _ => rfl) (put h.r3) (fun _ _ => trivial)).1, (own_rowS (cs := folC) (G := NoG) (fun _ => rfl) (put h.r4) (fun _ _ => trivial)).1⟩,
    ⟨hnil (cs := strC) (fun _ => rfl) (put h.r0), hnil (cs := prodC) (fun _ => rfl) (put h.r1), hnil (cs := forC) (fun _ => rfl) (put h.r3), hnil (cs := folC) (fun _ => rfl) (put h.r4), fun x hx => hnil (cs := symC) (fun _ => rfl) (put (h.rs x hx))⟩⟩
end
end Go.Proofs.Ytiihdbchchnncaa
end
section
namespace Go.Vals
open Go

section
variable {P : Program} {ops : Array Oper} {Q : Exit → Act → World → Prop} {md : Region.Mode}

/-- An operation that turns the world of its stage into the next one's. -/
def Turns (P : Program) (ops : Array Oper) (F : Array Value) (ds : List Deferred) (o : Oper) (w w' : World) : Prop :=
  noSel o = true ∧ Region.wanted o (yielded ops F) = true ∧ ∃ v, ((execOp (Act.eval ⟨F, ds⟩) o).run P w = .ok (.value v) w' ∨ (execOp (Act.eval ⟨F, ds⟩) o).run P w = .ok .skip w' ∧ v = undef) ∧ ∀ d, o.dst = some d → F[d]? = some v
def SpecAll (P : Program) (ops : Array Oper) (F : Array Value) (ds : List Deferred) (Ws : Nat → World) : Nat → List Nat → Prop
  | _, [] => True
  | k, i :: r => (∃ o, ops[i]? = some o ∧ Turns P ops F ds o (Ws k) (Ws (k + 1))) ∧ SpecAll P ops F ds Ws (k + 1) r
theorem SpecAll.get {F : Array Value} {ds : List Deferred} {Ws : Nat → World} : ∀ {l : List Nat} {k : Nat}, SpecAll P ops F ds Ws k l → ∀ (j i : Nat), l[j]? = some i → ∃ o, ops[i]? = some o ∧ Turns P ops F ds o (Ws (k + j)) (Ws (k + j + 1))
  | [], _, _, j, i, h => by simp at h
  | x :: l, k, hE, 0, i, h => by simp at h; subst h; exact hE.1
  | x :: l, k, hE, j + 1, i, h => by
    have := hE.2.get j i (by simpa using h)
    rw [show k + 1 + j = k + (j + 1) by omega] at this
    exact this
/-- The obligations of the rest. -/
def EachS (P : Program) (ops : Array Oper) (F : Array Value) (S : World → Prop) (ds : List Deferred) (sp : List Nat) : Nat → List Oper → Prop
  | _, [] => True
  | k, o :: l => (sp.contains k = true ∨ ∀ a w, a.defers = ds → S w → Knows (Kn F [] fun _ _ _ => False) (o.looksAt ops) a w → Does P ops (fun w w' => w' = w) (Kn F [] fun _ _ _ => False) o a w) ∧ EachS P ops F S ds sp (k + 1) l
theorem EachS.get {F : Array Value} {S : World → Prop} {ds : List Deferred} {sp : List Nat} : ∀ {l : List Oper} {k : Nat}, EachS P ops F S ds sp k l → ∀ (j : Nat) (o : Oper), l[j]? = some o → sp.contains (k + j) = false →
    ∀ a w, a.defers = ds → S w → Knows (Kn F [] fun _ _ _ => False) (o.looksAt ops) a w → Does P ops (fun w w' => w' = w) (Kn F [] fun _ _ _ => False) o a w
  | [], _, _, j, o, h, _ => by simp at h
  | x :: l, k, hE, 0, o, h, hn => by
    simp at h; subst h
    rcases hE.1 with h1 | h1
    · rw [Nat.add_zero] at hn; rw [hn] at h1; cases h1
    · exact h1
  | x :: l, k, hE, j + 1, o, h, hn => hE.2.get j o (by simpa using h) (by rw [show k + 1 + j = k + (j + 1) by omega]; exact hn)
/-- The special operations: one waits for the other, n is the last one. -/
def chainSp (md : Region.Mode) (ops : Array Oper) (n : Nat) : List Nat → Bool
  | [] => false
  | [i] => i == n
  | i :: j :: r => decide (i < n) && Region.waitsFor md ops j i && chainSp md ops n (j :: r)
theorem chainSp_last {n : Nat} : ∀ {l : List Nat}, chainSp md ops n l = true → l[l.length - 1]? = some n
  | [], h => by cases h
  | [i], h => by simp [chainSp] at h; simp [h]
  | i :: j :: r, h => by
    simp only [chainSp, Bool.and_eq_true] at h
    have := chainSp_last h.2
    simpa using this
theorem chainSp_waits {n : Nat} : ∀ {l : List Nat}, chainSp md ops n l = true → ∀ (k i j : Nat), l[k]? = some i → l[k + 1]? = some j → Region.waitsFor md ops j i = true
  | [], h, _, _, _, _, _ => by cases h
  | [x], h, k, i, j, h1, h2 => by simp at h2
  | x :: y :: r, h, 0, i, j, h1, h2 => by
    simp at h1 h2; subst h1 h2
    simp only [chainSp, Bool.and_eq_true] at h
    exact h.1.2
  | x :: y :: r, h, k + 1, i, j, h1, h2 => by
    simp only [chainSp, Bool.and_eq_true] at h
    exact chainSp_waits h.2 k i j (by simpa using h1) (by simpa using h2)
theorem chainSp_low {n : Nat} : ∀ {l : List Nat}, chainSp md ops n l = true → ∀ (k i : Nat), l[k]? = some i → k + 1 < l.length → i < n
  | [], h, _, _, _, _ => by cases h
  | [x], h, k, i, h1, h2 => by simp at h2
  | x :: y :: r, h, 0, i, h1, h2 => by
    simp at h1; subst h1
    simp only [chainSp, Bool.and_eq_true, decide_eq_true_eq] at h
    exact h.1.1
  | x :: y :: r, h, k + 1, i, h1, h2 => by
    simp only [chainSp, Bool.and_eq_true] at h
    exact chainSp_low h.2 k i (by simpa using h1) (by simpa using h2)

theorem sp_inj {n : Nat} {l : List Nat} (hc : chainSp md ops n l = true) (hlt : ∀ (j : Nat) (o : Oper), ops[j]? = some o → ∀ e ∈ o.after, e.on < j) : ∀ (d k i j : Nat), l[k]? = some i → l[k + d + 1]? = some j → i < j := by
  intro d
  induction d with
  | zero =>
    intro k i j h1 h2
    obtain ⟨o, ho, e, he, _, hon⟩ := Region.waitsFor_spec (chainSp_waits hc k i j h1 h2)
    have := hlt j o ho e he
    omega
  | succ d ih =>
    intro k i j h1 h2
    have hk : k + d + 1 < l.length := by have := (List.getElem?_eq_some_iff.1 h2).1; omega
    have h3 := ih k i _ h1 (List.getElem?_eq_getElem hk)
    obtain ⟨o, ho, e, he, _, hon⟩ := Region.waitsFor_spec (chainSp_waits hc (k + d + 1) _ j (List.getElem?_eq_getElem hk) h2)
    have := hlt j o ho e he
    omega

/-- **A region that draws its order, with a chain of operations that turn the world.** -/
theorem wp_region_chain {id : Nat} {a : Act} {w : World} (sp : List Nat) (n : Nat) (Ws : Nat → World) (vs : List Value) (F : Array Value)
    (hm : P.follows .mixedOrders = true) (hck : ck .any ops [] = true) (hb : below ops a.tmps.size = true)
    (hF : putL a.tmps (ops.toList.map (·.dst)) vs = F)
    (hsz : ops.size = n + 1) (hsink : Region.sinkB .any ops n = true) (hsp : chainSp .any ops n sp = true) (h0 : Ws 0 = w.drew)
    (hspec : SpecAll P ops F a.defers Ws 0 sp)
    (hall : EachS P ops F (fun W => ∃ k, k < sp.length ∧ W = Ws k) a.defers sp 0 ops.toList)
    (wE : World) (hE : Ws sp.length = wE) (hQ : Q .normal { a with tmps := F } wE) : (Code.region id ops true).wp P Q a w := by
  subst hE
  obtain ⟨hsel, hlt, hone, hlook⟩ := ck_spec hck
  have hFs : F.size = a.tmps.size := by rw [← hF, putL_size]
  have hin := below_spec hb
  have hch : Region.chainB .any ops n = true := by
    unfold Region.chainB
    rw [List.all_eq_true]
    intro t ht
    have := List.mem_range.1 ht
    simp only [Bool.or_eq_true, decide_eq_true_eq]
    left; omega
  have hlast := chainSp_last hsp
  have hpos : 0 < sp.length := by have := (List.getElem?_eq_some_iff.1 hlast).1; omega
  have key : ∀ (fuel : Nat) (listed : Array Bool) (b : Act) (W : World), listed.size = ops.size → left ops listed ≤ fuel → b.tmps.size = a.tmps.size → b.defers = a.defers →
      (∀ t < a.tmps.size, Settled ops listed t → b.tmps[t]? = F[t]?) →
      ((∃ s, s < sp.length ∧ W = Ws s ∧ HeadInv .any ops n listed ∧ ∀ k i, sp[k]? = some i → (listed.getD i true = true ↔ k < s)) ∨ (W = Ws sp.length ∧ ∀ j, j < ops.size → listed.getD j true = true)) →
      wpAny P .any ops Q fuel listed b W := by
    intro fuel
    have fin : ∀ (listed : Array Bool) (b : Act) (W : World), listed.size = ops.size → b.tmps.size = a.tmps.size → b.defers = a.defers →
        (∀ t < a.tmps.size, Settled ops listed t → b.tmps[t]? = F[t]?) →
        ((∃ s, s < sp.length ∧ W = Ws s ∧ HeadInv .any ops n listed ∧ ∀ k i, sp[k]? = some i → (listed.getD i true = true ↔ k < s)) ∨ (W = Ws sp.length ∧ ∀ j, j < ops.size → listed.getD j true = true)) →
        Region.ready .any ops listed = [] → Q .normal b W := by
      intro listed b W hls hbs hbd hk hst hr
      have hl := listed_all hlt hls hr
      have hW : W = Ws sp.length := by
        rcases hst with ⟨s, hs, rfl, inv, hiff⟩ | ⟨h, _⟩
        · exfalso
          have h1 : n < ops.size := by omega
          have h2 := hl n ops[n] (by simp [h1])
          have := (hiff (sp.length - 1) n hlast).1 h2
          omega
        · exact h
      have hT : b.tmps = F := by
        apply Array.ext (by rw [hbs, hFs])
        intro i h1 h2
        have := hk i (by omega) fun j o ho _ => hl j o ho
        simpa [h1, h2] using this
      obtain ⟨bt, bd⟩ := b
      dsimp only at hT hbd
      rw [hW, hT, hbd]
      exact hQ
    induction fuel with
    | zero =>
      intro listed b W hls hleft hbs hbd hk hst
      have hr : Region.ready .any ops listed = [] := by
        rw [List.eq_nil_iff_forall_not_mem]
        intro j hj
        obtain ⟨h0, o, ho, _⟩ := mem_ready.1 hj
        have hlt' : j < ops.size := (Array.getElem?_eq_some_iff.1 ho).1
        have : 0 < left ops listed := List.countP_pos_iff.2 ⟨j, by simpa using hlt', by simp [h0]⟩
        omega
      exact ⟨hr, fin listed b W hls hbs hbd hk hst hr⟩
    | succ fuel ih =>
      intro listed b W hls hleft hbs hbd hk hst
      refine ⟨fun hr => fin listed b W hls hbs hbd hk hst hr, fun i hi => ?_⟩
      obtain ⟨hun, o, ho, hdep⟩ := mem_ready.1 hi
      have hilt : i < ops.size := (Array.getElem?_eq_some_iff.1 ho).1
      rcases hst with ⟨s, hs, rfl, inv, hiff⟩ | ⟨_, hall'⟩
      rotate_left
      · rw [hall' i hilt] at hun; cases hun
      have hlook' : ∀ t ∈ o.looksAt ops, b.tmps[t]? = F[t]? := by
        intro t ht
        refine hk t ((hin i o ho).2 t ht) fun j x hx hxd => ?_
        obtain ⟨e, he, hb', rfl⟩ := hlook i o j x t ho hx hxd ht
        have h1 := hdep e he hb'
        have hj : e.on < ops.size := (Array.getElem?_eq_some_iff.1 hx).1
        have hj' : e.on < listed.size := by omega
        simpa [hj'] using h1
      have hknow : Knows (Kn F [] fun _ _ _ => False) (o.looksAt ops) b (Ws s) := by
        intro t ht
        have ht' := (hin i o ho).2 t ht
        refine ⟨b.tmps[t]'(by rw [hbs]; exact ht'), Array.getElem?_eq_getElem _, .inr ⟨by simp, ?_⟩⟩
        rw [← hlook' t ht]; exact Array.getElem?_eq_getElem _
      have hleft' : left ops (listed.setIfInBounds i true) ≤ fuel := by
        have : left ops (listed.setIfInBounds i true) < left ops listed := by
          refine countP_lt (x := i) (fun j _ hj => ?_) (by simpa using hilt) (by simp [hun]) (by simp [hls, hilt])
          by_cases hij : i = j
          · subst hij; simp [hls, hilt] at hj
          · rw [getD_set_ne true hij] at hj; exact hj
        omega
      have hslots : ∀ u, (∀ d, o.dst = some d → F[d]? = some u) → ∀ t < a.tmps.size, Settled ops (listed.setIfInBounds i true) t → (b.put o.dst u).tmps[t]? = F[t]? := by
        intro u hu t ht hset
        by_cases hdt : o.dst = some t
        · rw [hu t hdt]
          have : t < b.tmps.size := by omega
          simp [Act.put, hdt, this]
        · have hset' : Settled ops listed t := by
            intro j x hx hxd
            by_cases hij : i = j
            · subst hij; rw [ho] at hx; cases hx; exact absurd hxd hdt
            · rw [← getD_set_ne true hij]; exact hset j x hx hxd
          rw [← hk t ht hset']
          cases hod : o.dst with
          | none => simp [Act.put]
          | some d =>
            have : d ≠ t := fun e => hdt (by rw [hod, e])
            simp only [Act.put]
            rw [Array.getElem?_setIfInBounds_ne this]
      have hsize : ∀ u, (b.put o.dst u).tmps.size = a.tmps.size := fun u => by unfold Act.put; split <;> simp [hbs]
      have hdef : ∀ u, (b.put o.dst u).defers = a.defers := fun u => by unfold Act.put; split <;> exact hbd
      cases hc : sp.contains i with
      | false =>
        have hne : i ≠ n := by
          intro e; subst e
          have : i ∈ sp := List.mem_of_getElem? hlast
          rw [List.contains_iff_mem.2 this] at hc; cases hc
        have hdo := hall.get i o (by simpa using ho) (by simpa using hc) b (Ws s) hbd ⟨s, hs, rfl⟩ hknow
        refine hdo.wpOp (N := fun w w' => w' = w) ho rfl fun u w' hw' hp => ?_
        subst hw'
        refine ih _ _ _ (by simpa using hls) hleft' (hsize u) (hdef u) (hslots u fun d hd => ?_) (.inl ⟨s, hs, rfl, inv.set hi (by omega), fun k j hj => ?_⟩)
        · rcases hp d hd with ⟨h, _⟩ | ⟨_, h⟩
          · cases h
          · exact h
        · have hji : i ≠ j := fun e => by
            subst e
            rw [List.contains_iff_mem.2 (List.mem_of_getElem? hj)] at hc; cases hc
          rw [getD_set_ne true hji]
          exact hiff k j hj
      | true =>
        obtain ⟨k, hki⟩ := List.mem_iff_getElem?.1 (List.contains_iff_mem.1 hc)
        have hk1 : ¬ k < s := fun h => by rw [(hiff k i hki).2 h] at hun; cases hun
        have hk2 : k ≤ s := by
          cases k with
          | zero => omega
          | succ k =>
            have hkl : k < sp.length := by have := (List.getElem?_eq_some_iff.1 hki).1; omega
            have hkk : sp[k]? = some sp[k] := List.getElem?_eq_getElem hkl
            obtain ⟨o', ho', e, he, hb', hon⟩ := Region.waitsFor_spec (chainSp_waits hsp k _ i hkk hki)
            rw [ho] at ho'
            cases ho'
            have h1 := hdep e he hb'
            rw [hon] at h1
            have h2 : listed.getD sp[k] true = true := by
              have hlt2 : sp[k] < listed.size := by
                have := hlt i o ho e he
                omega
              simp [hlt2] at h1 ⊢; exact h1
            have := (hiff k _ hkk).1 h2
            omega
        obtain rfl : k = s := by omega
        obtain ⟨o', ho', hns, hwant, v, hrun, hv⟩ := hspec.get k i hki
        rw [ho] at ho'
        cases ho'
        rw [Nat.zero_add] at hrun
        have he : execOp b.eval o = execOp (Act.eval ⟨F, a.defers⟩) o := by
          refine execOp_congr o (noSel_spec hns) fun x hx => ?_
          cases x with
          | tmp t =>
            have ht : t ∈ o.looksAt ops := List.mem_append_left _ (List.mem_filterMap.2 ⟨.tmp t, by simpa using hx, rfl⟩)
            have := hlook' t ht
            simp [Act.eval, this]
          | _ => rfl
        have hw : Region.wanted o (yielded ops b.tmps) = true := by
          rw [← hwant]
          unfold Region.wanted
          cases hg : o.guard with
          | none => rfl
          | some gw =>
            obtain ⟨g, want⟩ := gw
            have hy : yielded ops b.tmps g = yielded ops F g := by
              unfold yielded
              cases ht : (ops[g]?).bind (·.dst) with
              | none => rfl
              | some t =>
                have := hlook' t (by simp [Oper.looksAt, hg, ht])
                simp [this]
            simp only [hy]
        have hnext : wpAny P .any ops Q fuel (listed.setIfInBounds i true) (b.put o.dst v) (Ws (k + 1)) := by
          refine ih _ _ _ (by simpa using hls) hleft' (hsize v) (hdef v) (hslots v hv) ?_
          by_cases hend : k + 1 < sp.length
          · have hilow : i < n := chainSp_low hsp k i hki hend
            refine .inl ⟨k + 1, hend, rfl, inv.set hi hilow, fun k' j hj => ?_⟩
            by_cases hji : i = j
            · subst hji
              have : k' = k := by
                rcases Nat.lt_trichotomy k' k with h | h | h
                · have := sp_inj hsp hlt (k - k' - 1) k' i i hj (by rw [show k' + (k - k' - 1) + 1 = k by omega]; exact hki)
                  omega
                · exact h
                · have := sp_inj hsp hlt (k' - k - 1) k i i hki (by rw [show k + (k' - k - 1) + 1 = k' by omega]; exact hj)
                  omega
              subst this
              have : (listed.setIfInBounds i true).getD i true = true := by simp [hls, hilt]
              simp [this]
            · rw [getD_set_ne true hji, hiff k' j hj]
              have : k' ≠ k := fun e => by subst e; rw [hki] at hj; cases hj; exact hji rfl
              omega
          · have hkl : k = sp.length - 1 := by have := (List.getElem?_eq_some_iff.1 hki).1; omega
            have hin' : i = n := by rw [hkl, hlast] at hki; cases hki; rfl
            refine .inr ⟨by rw [show k + 1 = sp.length by omega], fun j hj => ?_⟩
            subst hin'
            by_cases hji : i = j
            · subst hji; simp [hls, hilt]
            · rw [getD_set_ne true hji]
              cases hlj : listed.getD j true with
              | true => rfl
              | false => exact absurd hi (tail_waits hsink hch hilt inv _ j rfl (by omega) hlj i (Nat.le_refl _))
        unfold wpOp
        simp only [ho, hw, if_true]
        refine .inl ?_
        unfold Oper.wp
        rw [he]
        rcases hrun with hrun | ⟨hrun, rfl⟩
        · rw [hrun, Oper.upon_value]; exact hnext
        · rw [hrun, Oper.upon_skip]; exact hnext
  refine wp_region_any hm (key ops.size _ a _ (by simp) left_start rfl rfl (fun t ht hset => ?_) (.inl ⟨0, hpos, ?_, ⟨by simp, fun j oj _ hl => (by rw [getD_replicate_false] at hl; cases hl), fun t _ ht => getD_in (by simpa using ht) (getD_replicate_false _ _)⟩, fun k i hki => ?_⟩))
  · have hnd : some t ∉ ops.toList.map (·.dst) := by
      intro hm
      obtain ⟨o, ho, hod⟩ := List.mem_map.1 hm
      obtain ⟨j, hj⟩ := List.mem_iff_getElem?.1 ho
      have hj' : ops[j]? = some o := by simpa using hj
      have h5 := hset j o hj' hod
      have hlt : j < ops.size := (Array.getElem?_eq_some_iff.1 hj').1
      simp [hlt] at h5
    rw [← hF, putL_off _ _ _ hnd]
  · rw [h0]; rfl
  · have hil : i < ops.size := by
      by_cases e : k + 1 < sp.length
      · have := chainSp_low hsp k i hki e; omega
      · have hkl : k = sp.length - 1 := by have := (List.getElem?_eq_some_iff.1 hki).1; omega
        rw [hkl, hlast] at hki; cases hki; omega
    simp [hil]
end
end Go.Vals
end
section
namespace Go.Vals
open Go
theorem EachS.one {P : Program} {ops : Array Oper} {F : Array Value} {S : World → Prop} {ds : List Deferred} {sp : List Nat} {k : Nat} {o : Oper} {l : List Oper} (h : Each P ops (fun w w' => w' = w) (Kn F [] fun _ _ _ => False) S ds [o]) (hr : EachS P ops F S ds sp (k + 1) l) : EachS P ops F S ds sp k (o :: l) := ⟨.inr h.1, hr⟩
theorem EachS.skip {P : Program} {ops : Array Oper} {F : Array Value} {S : World → Prop} {ds : List Deferred} {sp : List Nat} {k : Nat} {o : Oper} {l : List Oper} (h : sp.contains k = true) (hr : EachS P ops F S ds sp (k + 1) l) : EachS P ops F S ds sp k (o :: l) := ⟨.inl h, hr⟩
/-- Four worlds, one behind the other. -/
def four (w0 w1 w2 w3 : World) : Nat → World
  | 0 => w0
  | 1 => w1
  | 2 => w2
  | _ => w3
theorem four_lt {w0 w1 w2 w3 W : World} (h : ∃ k, k < 3 ∧ W = four w0 w1 w2 w3 k) : W = w0 ∨ W = w1 ∨ W = w2 := by
  obtain ⟨k, hk, rfl⟩ := h
  rcases k with _ | _ | _ | k
  · exact .inl rfl
  · exact .inr (.inl rfl)
  · exact .inr (.inr rfl)
  · omega
theorem Turns.val {P : Program} {ops : Array Oper} {F : Array Value} {ds : List Deferred} {o : Oper} {w w' : World} {d : Tmp} (v : Value) (hs : noSel o = true) (hw : Region.wanted o (yielded ops F) = true) (hd : o.dst = some d) (hv : F[d]? = some v)
    (h : (execOp (Act.eval ⟨F, ds⟩) o).run P w = .ok (.value v) w') : Turns P ops F ds o w w' := ⟨hs, hw, v, .inl h, fun d' hd' => by rw [hd] at hd'; cases hd'; exact hv⟩
theorem Turns.skip {P : Program} {ops : Array Oper} {F : Array Value} {ds : List Deferred} {o : Oper} {w w' : World} (hs : noSel o = true) (hw : Region.wanted o (yielded ops F) = true) (hd : o.dst = none)
    (h : (execOp (Act.eval ⟨F, ds⟩) o).run P w = .ok .skip w') : Turns P ops F ds o w w' := ⟨hs, hw, undef, .inr ⟨h, rfl⟩, fun d' hd' => by rw [hd] at hd'; cases hd'⟩
end Go.Vals
namespace Go.Proofs.Ytiihdbchchnncaa
open Go Go.RowKit Go.Vals

section
variable {w : World} {o : Oper} {ρ : Operand → Value}
theorem ld66w {x : Operand} {b q : Nat} {u0 u1 u2 u3 : Value} (ho : o.op = .load 66 x) (hx : ρ x = .pointer (some ⟨b, q, none⟩)) (h : w.cell? ⟨b, q, none⟩ = some u0 ∧ w.cell? ⟨b, q + 1, none⟩ = some u1 ∧ w.cell? ⟨b, q + 2, none⟩ = some u2 ∧ w.cell? ⟨b, q + 3, none⟩ = some u3) :
    (execOp ρ o).run Try.prog w = .ok (.value (.agg #[u0, u1, u2, u3])) w := by
  obtain ⟨c0, c1, c2, c3⟩ := h
  unfold execOp; rw [ho]; simp only [hx]
  go_simp
theorem bs24 {x : Operand} {a b c : Value} (ho : o.op = .buildSlice 24 1 #[(0, x)]) (hx : ρ x = .agg #[a, b, c]) : (execOp ρ o).run Try.prog w = .ok (.value (.slice (some ⟨w.heap.size, 0, none⟩) 1 1)) (w.alloc (.cells #[a, b, c] 78)) := by
  unfold execOp; rw [ho]; simp only [List.map_toArray, List.map_cons, List.map_nil, hx]
  go_simp
theorem bs25 {x : Operand} {a b c d e : Value} (ho : o.op = .buildSlice 25 1 #[(0, x)]) (hx : ρ x = .agg #[a, b, c, d, e]) : (execOp ρ o).run Try.prog w = .ok (.value (.slice (some ⟨w.heap.size, 0, none⟩) 1 1)) (w.alloc (.cells #[a, b, c, d, e] 80)) := by
  unfold execOp; rw [ho]; simp only [List.map_toArray, List.map_cons, List.map_nil, hx]
  go_simp
theorem bd78 {x y z : Operand} {a b c : Int} (ho : o.op = .build 78 #[(0, x), (1, y), (2, z)]) (hx : ρ x = .int .i64 a) (hy : ρ y = .int .i64 b) (hz : ρ z = .int .i64 c) : (execOp ρ o).run Try.prog w = .ok (.value (.agg #[.int .i64 a, .int .i64 b, .int .i64 c])) w := by
  unfold execOp; rw [ho]; simp only [List.map_toArray, List.map_cons, List.map_nil, hx, hy, hz]
  go_simp
theorem bd80 {x y : Operand} {a b c d e : Int} (ho : o.op = .build 80 #[(0, x), (1, y)]) (hx : ρ x = .int .i64 a) (hy : ρ y = .agg #[.int .u64 b, .int .u64 c, .int .u64 d, .int .u64 e]) : (execOp ρ o).run Try.prog w = .ok (.value (.agg #[.int .i64 a, .int .u64 b, .int .u64 c, .int .u64 d, .int .u64 e])) w := by
  unfold execOp; rw [ho]; simp only [List.map_toArray, List.map_cons, List.map_nil, hx, hy]
  go_simp
theorem st24 {x y : Operand} {b i n c : Nat} {u : Value} {q : Option Addr} (ho : o.op = .store 24 x y) (hx : ρ x = .pointer (some ⟨b, i, none⟩)) (hy : ρ y = .slice q n c) (hc : w.cell? ⟨b, i, none⟩ = some u) (hf : w.frozen? ⟨b, i, none⟩ = false) (hl : b < w.heap.size) : (execOp ρ o).run Try.prog w = .ok .skip (w.setCell ⟨b, i, none⟩ (.slice q n c)) := by
  unfold execOp; rw [ho]; simp only [hx, hy]
  go_simp
theorem st25 {x y : Operand} {b i n c : Nat} {u : Value} {q : Option Addr} (ho : o.op = .store 25 x y) (hx : ρ x = .pointer (some ⟨b, i, none⟩)) (hy : ρ y = .slice q n c) (hc : w.cell? ⟨b, i, none⟩ = some u) (hf : w.frozen? ⟨b, i, none⟩ = false) (hl : b < w.heap.size) : (execOp ρ o).run Try.prog w = .ok .skip (w.setCell ⟨b, i, none⟩ (.slice q n c)) := by
  unfold execOp; rw [ho]; simp only [hx, hy]
  go_simp
theorem ap_of {s x : Operand} {t : TypeId} {v u v' : Value} {w' : World} (ho : o.op = .call { callee := .builtin .append, args := #[s, x], argTypes := #[t, t] }) (hs : ρ s = v) (hx : ρ x = u)
    (hr : (Builtin.append_ #[t, t] o.type #[v, u]).run Try.prog w = .ok v' w') : (execOp ρ o).run Try.prog w = .ok (.value v') w' := by
  unfold execOp
  simp only [ho, resolve, invoke, builtin, Sem.run_bind, Sem.run_pure, Result.andThen_ok, List.map_toArray, List.map_cons, List.map_nil, hs, hx, hr]
end
end Go.Proofs.Ytiihdbchchnncaa
end
