import Derived.Test.YtmlkeddiagmedaaBef
import Derived.Test.YtmlkeddiagmedaaLong
import Derived.Test.YtmlkeddiagmedaaLongF
import Derived.Test.YtmlkeddiagmedaaKnown
namespace Go.Proofs.Ytmlkeddiagmedaa
open Go.RowKit

/-- Those of d whose mark is set. -/
def doneOf : List Ed → List Bool → List Ed
  | x :: d, m :: bs => if m then x :: doneOf d bs else doneOf d bs
  | _, _ => []

theorem doneOf_set : ∀ (d : List Ed) (dn : List Bool) (b : Nat) (x : Ed), d[b]? = some x → dn[b]? = some false → (doneOf d (dn.set b true)).Perm (x :: doneOf d dn)
  | [], _, _, _, h, _ => by simp at h
  | _ :: _, [], _, _, _, h => by simp at h
  | y :: d, m :: bs, 0, x, h1, h2 => by
    simp at h1 h2
    subst h1 h2
    show (doneOf (y :: d) (true :: bs)).Perm (y :: doneOf (y :: d) (false :: bs))
    simp [doneOf]
  | y :: d, m :: bs, b + 1, x, h1, h2 => by
    have ih := doneOf_set d bs b x (by simpa using h1) (by simpa using h2)
    show (doneOf (y :: d) (m :: bs.set b true)).Perm (x :: doneOf (y :: d) (m :: bs))
    cases m with
    | false => simpa [doneOf] using ih
    | true =>
      simp only [doneOf, if_true]
      exact (List.Perm.cons y ih).trans (List.Perm.swap x y _)

theorem doneOf_le : ∀ (d : List Ed) (dn : List Bool), (doneOf d dn).length ≤ d.length
  | [], _ => by simp [doneOf]
  | _ :: _, [] => by simp [doneOf]
  | y :: d, m :: bs => by
    have := doneOf_le d bs
    cases m <;> simp [doneOf] <;> omega

theorem doneOf_full : ∀ (d : List Ed) (dn : List Bool), (doneOf d dn).length = d.length → doneOf d dn = d
  | [], _, _ => by simp [doneOf]
  | _ :: _, [], h => by simp [doneOf] at h
  | y :: d, m :: bs, h => by
    have hle := doneOf_le d bs
    cases m with
    | false => simp [doneOf] at h; omega
    | true =>
      have ih := doneOf_full d bs (by simpa [doneOf] using h)
      simp [doneOf, ih]

theorem doneOf_all : ∀ (d : List Ed) (dn : List Bool), dn.length = d.length → (∀ j, j < d.length → dn[j]? = some true) → doneOf d dn = d
  | [], _, _, _ => by simp [doneOf]
  | _ :: _, [], h, _ => by simp at h
  | y :: d, m :: bs, h, hall => by
    have h0 := hall 0 (by simp)
    simp at h0
    subst h0
    have ih := doneOf_all d bs (by simpa using h) (fun j hj => by have := hall (j + 1) (by simpa using hj); simpa using this)
    simp [doneOf, ih]

theorem doneOf_none : ∀ (d : List Ed) (n : Nat), doneOf d (List.replicate n false) = []
  | [], _ => by simp [doneOf]
  | _ :: _, 0 => by simp [doneOf]
  | y :: d, n + 1 => by simp [List.replicate_succ, doneOf, doneOf_none d n]

/-- Is y later than x, as the law asks? -/
def laterP (x y : Ed) : Prop := x.1 < y.1 ∨ (y.1 = x.1 ∧ x.2.1 < y.2.1)

/-- What the law has made after so many Edits. -/
structure Made (d : List Ed) (dn : List Bool) (ds : List Ed) : Prop where
  len : dn.length = d.length
  perm : ds.Perm (doneOf d dn)
  bef : ds.Pairwise Bef
  ahead : ∀ (j : Nat) (x : Ed), d[j]? = some x → dn[j]? = some false → ∀ y ∈ ds, Bef x y

theorem Made.start (d : List Ed) : Made d (List.replicate d.length false) [] :=
  ⟨by simp, by rw [doneOf_none], List.Pairwise.nil, fun _ _ _ _ y hy => by simp at hy⟩

theorem Made.step {n : Int} {d : List Ed} {dn : List Bool} {ds : List Ed} (h : Made d dn ds) (hg : ∀ x ∈ d, goodEd n x) (hs : d.Pairwise SymBef) {b : Nat} {x : Ed} (hx : d[b]? = some x) (hb : dn[b]? = some false)
    (hmax : ∀ (j : Nat) (y : Ed), d[j]? = some y → dn[j]? = some false → ¬ laterP x y) : Made d (dn.set b true) (x :: ds) := by
  refine ⟨by simpa using h.len, (List.Perm.cons x h.perm).trans (doneOf_set d dn b x hx hb).symm, List.pairwise_cons.2 ⟨h.ahead b x hx hb, h.bef⟩, ?_⟩
  intro j y hy hj z hz
  have hne : b ≠ j := by
    rintro rfl
    rw [List.getElem?_set_self (by have := (List.getElem?_eq_some_iff.1 hb).1; exact this)] at hj
    cases hj
  rw [List.getElem?_set_ne hne] at hj
  rcases List.mem_cons.1 hz with rfl | hz
  · have hm := hmax j y hy hj
    exact bef_of_max (hg y (List.mem_of_getElem? hy)) (hg z (List.mem_of_getElem? hx)) (symBef_at hs hy hx (Ne.symm hne)) (by unfold laterP at hm; omega)
  · exact h.ahead j y hy hj z hz

theorem Made.good {n : Int} {d : List Ed} {dn : List Bool} {ds : List Ed} (h : Made d dn ds) (hg : ∀ x ∈ d, goodEd n x) : ∀ x ∈ ds, goodEd n x := by
  intro x hx
  have : x ∈ doneOf d dn := h.perm.mem_iff.1 hx
  exact hg x (mem_doneOf d dn x this)
where
  mem_doneOf : ∀ (d : List Ed) (dn : List Bool) (x : Ed), x ∈ doneOf d dn → x ∈ d
    | [], _, _, h => by simp [doneOf] at h
    | _ :: _, [], _, h => by simp [doneOf] at h
    | y :: d, m :: bs, x, h => by
      cases m with
      | false => exact List.mem_cons_of_mem _ (mem_doneOf d bs x (by simpa [doneOf] using h))
      | true =>
        simp only [doneOf, if_true] at h
        rcases List.mem_cons.1 h with rfl | h
        · simp
        · exact List.mem_cons_of_mem _ (mem_doneOf d bs x h)

/-- All are made: it is the sorted list. -/
theorem Made.all {n : Int} {d : List Ed} {dn : List Bool} {ds sd : List Ed} (h : Made d dn ds) (hlen : ds.length = d.length) (hp : sd.Perm d) (hg : ∀ x ∈ sd, goodEd n x) (hb : sd.Pairwise Bef) : ds = sd := by
  have e := doneOf_full d dn (by rw [← h.perm.length_eq]; exact hlen)
  have hp2 := h.perm
  rw [e] at hp2
  exact sorted_unique hg (hp2.trans hp.symm) h.bef hb

theorem Made.open {d : List Ed} {dn : List Bool} {ds : List Ed} (h : Made d dn ds) (hlen : ds.length < d.length) : ¬ (∀ j, j < d.length → dn[j]? = some true) := by
  intro hall
  have := doneOf_all d dn h.len hall
  have hl := h.perm.length_eq
  rw [this] at hl
  omega

theorem not_ovl_of_bef {ds : List Ed} (h : ds.Pairwise Bef) : ¬ Ovl ds := by
  rintro ⟨i, x, y, hx, hy, hb⟩
  obtain ⟨h1, rfl⟩ := List.getElem?_eq_some_iff.1 hx
  obtain ⟨h2, rfl⟩ := List.getElem?_eq_some_iff.1 hy
  rw [List.pairwise_iff_getElem] at h
  have := h i (i + 1) h1 h2 (by omega)
  unfold Bef at this
  unfold pairBad at hb
  omega

/-- Apply at one Edit that may be. -/
theorem apply_one (T : ByteArray) (x : Ed) (blk cap : Nat) (w : World) (hT : T.size ≤ 100000) (hx : x.2.2.size ≤ 3000) (hg : goodEd T.size x) (hd : RowEd w (some ⟨blk, 0, none⟩) [x]) :
    Calls Try.prog 16 #[.string T, .slice (some ⟨blk, 0, none⟩) 1 cap] w fun e w' => e = .returned (.tuple #[.string ⟨(applyA T.data.toList [x]).toArray⟩, .int .i64 0]) ∧ Below w.heap.size w w' := by
  have hsum : sumG [x] = growI x := by rw [sumG_cons]; simp [sumG]
  refine (apply_any T _ cap [x] w 3000 (by omega) hd (by simp) (by intro y hy; simp at hy; subst hy; exact hx) (by decide) (by simp)).mono ?_
  rintro e w' ⟨hB, ⟨hno, rfl⟩ | ⟨hgood, sd, hperm, hsort, h⟩⟩
  · exact absurd (fun y hy => by simp at hy; subst hy; exact hg) hno
  · have : sd = [x] := List.perm_singleton.1 hperm
    subst this
    rw [hsum] at h
    unfold goodEd at hg
    unfold growI at h
    rcases h with ⟨hov, _⟩ | ⟨_, ⟨hbig, _⟩ | ⟨_, rfl⟩⟩
    · exact absurd hov (ovl_one _)
    · omega
    · exact ⟨rfl, hB⟩

/-- The next Edit may be made, and makes what it should. -/
theorem apply_next (s : ByteArray) (x : Ed) (ds : List Ed) (hs : s.size ≤ 3000) (hb : (x :: ds).Pairwise Bef) (hg : ∀ y ∈ x :: ds, goodEd s.size y) (hsm : ∀ y ∈ x :: ds, y.2.2.size ≤ 3000) (hl : ds.length ≤ 20) :
    ∃ T : ByteArray, T = ⟨(applyA s.data.toList ds).toArray⟩ ∧ T.size ≤ 100000 ∧ goodEd T.size x ∧ applyA T.data.toList [x] = applyA s.data.toList (x :: ds) := by
  refine ⟨_, rfl, ?_, ?_, ?_⟩
  · have h1 := applyA_length s ds (fun y hy => hg y (List.mem_cons_of_mem _ hy)) (not_ovl_of_bef (List.pairwise_cons.1 hb).2)
    have h2 := sumG_bd s.size 3000 ds (fun y hy => hg y (List.mem_cons_of_mem _ hy)) (fun y hy => hsm y (List.mem_cons_of_mem _ hy))
    show (applyA s.data.toList ds).toArray.size ≤ _
    rw [List.size_toArray]
    omega
  · have gx := hg x (by simp)
    have hsz : s.data.toList.length = s.size := by simp
    unfold goodEd at gx ⊢
    refine ⟨gx.1, gx.2.1, ?_⟩
    have hall : ∀ y ∈ ds, ((x.2.1.toNat : Nat) : Int) ≤ y.1 := fun y hy => by have := ((List.pairwise_cons.1 hb).1 y hy).1; omega
    have h0 := fromA_split s.data.toList ds 0 x.2.1.toNat (Nat.zero_le _) hall (List.pairwise_cons.1 hb).2 (fun y hy => by rw [hsz]; exact hg y (List.mem_cons_of_mem _ hy)) (by omega)
    show x.2.1 ≤ (((applyA s.data.toList ds).toArray.size : Nat) : Int)
    rw [List.size_toArray, applyA_from, h0, List.drop_zero, List.length_append, List.length_take]
    omega
  · show applyA (applyA s.data.toList ds).toArray.toList [x] = _
    have hsz : s.data.toList.length = s.size := by simp
    simpa using apply_cons s.data.toList x ds hb (by rw [hsz]; exact hg)

end Go.Proofs.Ytmlkeddiagmedaa
