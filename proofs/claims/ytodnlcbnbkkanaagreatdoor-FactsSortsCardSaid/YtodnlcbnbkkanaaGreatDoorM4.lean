import Derived.Laws.EntriesVeiled
import Derived.Laws.AppendOwnNone
import Derived.RegionTactic
import Derived.BigRegion
import Derived.Deep.RegionLaw
import Derived.Lib.SliceRun
import Derived.Laws.IdiomArrays
import Derived.OpenShut
import Derived.Deep.Slices
import Derived.ProofKit
import Derived.ChangeSame
import Derived.Test.YtodnlcbnbkkanaaGreatDoorM1
import Derived.Test.YtodnlcbnbkkanaaGreatDoorM2
import Derived.Test.YtodnlcbnbkkanaaGreatDoorM3
section
namespace Go.Proofs.YtodnlcbnbkkanaaGreatDoor
open Go Go.RowKit

/-- From a sort to one in a production of it all of whose sorts are live. -/
def Edge (g : GramM) (L : List Bool) (k t : Nat) : Prop := ∃ x, x ∈ g.prods ∧ x.left = k ∧ sortsB (lv L) x = true ∧ ∃ s, s ∈ x.right ∧ s.kind = 1 ∧ s.sort = t
inductive RF (g : GramM) (L : List Bool) (j : Nat) : Nat → Prop
  | refl : RF g L j j
  | step {k t : Nat} : RF g L j k → Edge g L k t → RF g L j t
theorem RF.trans {g : GramM} {L : List Bool} {a b c : Nat} (h : RF g L a b) (k : RF g L b c) : RF g L a c := by
  induction k with
  | refl => exact h
  | step _ e ih => exact ih.step e

/-- On the way: what has been marked since M1, from j on. -/
structure Mid (g : GramM) (L : List Bool) (j : Nat) (M1 M : List Bool) : Prop where
  len : M.length = M1.length
  le : ∀ k : Nat, M1[k]? = some true → M[k]? = some true
  closed : ∀ k t : Nat, M[k]? = some true → M1[k]? ≠ some true → Edge g L k t → M[t]? = some true
  sound : ∀ k : Nat, M[k]? = some true → M1[k]? = some true ∨ RF g L j k
def Grew (g : GramM) (L : List Bool) (j : Nat) (M1 M : List Bool) : Prop := Mid g L j M1 M ∧ M[j]? = some true
theorem Mid.refl (g : GramM) (L : List Bool) (j : Nat) (M : List Bool) : Mid g L j M M := ⟨rfl, fun _ h => h, fun _ _ h h2 => absurd h h2, fun _ h => .inl h⟩
theorem Mid.call {g : GramM} {L : List Bool} {j t : Nat} {M1 M M' : List Bool} (h : Mid g L j M1 M) (he : Edge g L j t) (hg : Grew g L t M M') : Mid g L j M1 M' := by
  obtain ⟨h2, _⟩ := hg
  refine ⟨h2.len.trans h.len, fun k hk => h2.le k (h.le k hk), fun k u hk hn e => ?_, fun k hk => ?_⟩
  · by_cases c : M[k]? = some true
    · exact h2.le u (h.closed k u c hn e)
    · exact h2.closed k u hk c e
  · rcases h2.sound k hk with c | c
    · exact h.sound k c
    · exact .inr ((RF.refl.step he).trans c)
/-- Productions of j that have been gone over. -/
def Done (g : GramM) (L : List Bool) (j : Nat) (l : List ProdM) (M : List Bool) : Prop := ∀ x, x ∈ l → x.left = j → sortsB (lv L) x = true → ∀ s, s ∈ x.right → s.kind = 1 → M[s.sort.toNat]? = some true
theorem grew_of {g : GramM} {L : List Bool} {j : Nat} {M M' : List Bool} (hj : j < M.length) (h : Mid g L j (M.set j true) M') (hd : Done g L j g.prods M') : Grew g L j M M' := by
  have hset : (M.set j true)[j]? = some true := by simp [hj]
  refine ⟨⟨by rw [h.len, List.length_set], fun k hk => h.le k ?_, fun k t hk hn e => ?_, fun k hk => ?_⟩, h.le j hset⟩
  · rw [List.getElem?_set]
    split
    · next e => subst e; simp [hj]
    · exact hk
  · by_cases c : k = j
    · subst c
      obtain ⟨x, hx, hl, hs, s, hsx, hk1, hst⟩ := e
      have := hd x hx hl hs s hsx hk1
      rw [hst, Int.toNat_natCast] at this
      exact this
    · refine h.closed k t hk (fun h2 => hn ?_) e
      rw [List.getElem?_set_ne (fun h => c h.symm)] at h2
      exact h2
  · rcases h.sound k hk with c | c
    · by_cases e : k = j
      · subst e; exact .inr RF.refl
      · rw [List.getElem?_set_ne (fun h => e h.symm)] at c
        exact .inl c
    · exact .inr c
theorem grew_self {g : GramM} {L : List Bool} {j : Nat} {M : List Bool} (h : M[j]? = some true) : Grew g L j M M := ⟨Mid.refl _ _ _ _, h⟩
theorem count_le : ∀ {M M' : List Bool}, M'.length = M.length → (∀ k : Nat, M[k]? = some true → M'[k]? = some true) → M'.count false ≤ M.count false := by
  intro M
  induction M with
  | nil => intro M' h _; cases M' with | nil => exact Nat.le_refl _ | cons _ _ => simp at h
  | cons b r ih =>
    intro M' h hk
    cases M' with
    | nil => simp at h
    | cons c s =>
      have := ih (M' := s) (by simpa using h) (fun k hh => by simpa using hk (k + 1) (by simpa using hh))
      simp only [List.count_cons]
      cases b with
      | false => cases c <;> simp <;> omega
      | true =>
        have := hk 0 rfl
        simp at this
        subst this
        simpa using ih (M' := s) (by simpa using h) (fun k hh => by simpa using hk (k + 1) (by simpa using hh))

structure VK (w0 : World) (Bg Bl Q Bm Bv : Nat) : Prop where
  q : w0.heap.size ≤ Q
  g : Bg ≠ Q
  l : Bl ≠ Q
  m : Bm ≠ Q
  v : Bv ≠ Q
theorem grown_of_below {w W : World} (h : Below w.heap.size w W) (r : Option Nat) : w.grownBy W r := ⟨h.os, h.tape, h.output, h.size, fun k hk _ => h.block k hk⟩
theorem grown_trans {A B C : World} {r : Option Nat} (h : A.grownBy B r) (k : B.grownBy C r) : A.grownBy C r := h.andThen k (fun j e => .inr e)
theorem grown_set (W : World) (Q k : Nat) (v : Value) : W.grownBy (W.setCell ⟨Q, k, none⟩ v) (some Q) :=
  ⟨rfl, rfl, rfl, by rw [World.size_setCell]; exact Nat.le_refl _, fun j hj hne => Below.heap_setCell W ⟨Q, k, none⟩ v j (fun e => hne (by show some j = some Q; rw [show j = Q from e]))⟩
end Go.Proofs.YtodnlcbnbkkanaaGreatDoor
end
section
namespace Go.Proofs.YtodnlcbnbkkanaaGreatDoor
open Go Go.RowKit

theorem Done.mono {g : GramM} {L : List Bool} {j : Nat} {l : List ProdM} {M M' : List Bool} (h : Done g L j l M) (hM : ∀ k : Nat, M[k]? = some true → M'[k]? = some true) : Done g L j l M' :=
  fun x hx hl hs s hsx hk => hM _ (h x hx hl hs s hsx hk)
theorem Done.snoc {g : GramM} {L : List Bool} {j : Nat} {l : List ProdM} {M : List Bool} {x : ProdM} (h : Done g L j l M) (hx : x.left = j → sortsB (lv L) x = true → ∀ s, s ∈ x.right → s.kind = 1 → M[s.sort.toNat]? = some true) : Done g L j (l ++ [x]) M := by
  intro y hy hl hs s hsx hk
  rcases List.mem_append.1 hy with hy | hy
  · exact h y hy hl hs s hsx hk
  · simp at hy; subst hy; exact hx hl hs s hsx hk
theorem lv_false {M : List Bool} {j : Nat} (hj : j < M.length) (h : lv M j = false) : M[j]? = some false := by
  have e : M[j]? = some (M[j]) := List.getElem?_eq_getElem hj
  rw [e]
  unfold lv at h
  rw [List.getD_eq_getElem?_getD, Int.toNat_natCast, e] at h
  simpa using h
end Go.Proofs.YtodnlcbnbkkanaaGreatDoor
end
section
namespace Go.Proofs.YtodnlcbnbkkanaaGreatDoor
open Go Go.RowKit

/-- The list tells which sorts are reached. -/
def ReachL (g : GramM) (L R : List Bool) : Prop := R.length = g.sorts.length ∧ ∀ k : Nat, R[k]? = some true ↔ RF g L g.start.toNat k
theorem reach_of {g : GramM} {L R : List Bool} {n : Nat} (hn : n = g.sorts.length) (h : Grew g L g.start.toNat (List.replicate n false) R) : ReachL g L R := by
  have hno : ∀ k : Nat, (List.replicate n false)[k]? ≠ some true := fun k hk => by
    rw [List.getElem?_replicate] at hk
    split at hk <;> simp at hk
  refine ⟨by rw [h.1.len, List.length_replicate, hn], fun k => ⟨fun hk => (h.1.sound k hk).resolve_left (hno k), fun hk => ?_⟩⟩
  induction hk with
  | refl => exact h.2
  | step _ e ih => exact h.1.closed _ _ ih (hno _) e
theorem ReachL.unique {g : GramM} {L R R' : List Bool} (h : ReachL g L R) (h' : ReachL g L R') : R = R' := by
  apply List.ext_getElem?
  intro k
  by_cases hk : k < g.sorts.length
  · have e1 : R[k]? = some (R[k]'(by rw [h.1]; exact hk)) := List.getElem?_eq_getElem _
    have e2 : R'[k]? = some (R'[k]'(by rw [h'.1]; exact hk)) := List.getElem?_eq_getElem _
    rw [e1, e2]
    have a := h.2 k
    have b := h'.2 k
    rw [e1] at a
    rw [e2] at b
    simp only [Option.some.injEq] at a b ⊢
    rw [Bool.eq_iff_iff]
    exact a.trans b.symm
  · rw [List.getElem?_eq_none (by rw [h.1]; omega), List.getElem?_eq_none (by rw [h'.1]; omega)]
end Go.Proofs.YtodnlcbnbkkanaaGreatDoor
end
section
namespace Go.Proofs.YtodnlcbnbkkanaaGreatDoor
open Go Go.RowKit

/-- Where the first one stands that is not told. -/
def deadI (L : List Bool) : Int := firstI (fun b => !b) L
/-- Well's answer. -/
def WellP (g : GramM) (r : Int × Int) : Prop :=
  if checkB g then ∃ L, Live g L ∧ ((0 ≤ deadI L ∧ r = (161, deadI L)) ∨ (deadI L < 0 ∧ ∃ R, ReachL g L R ∧ r = if 0 ≤ deadI R then (162, deadI R) else (0, 0))) else r = (160, 0)
end Go.Proofs.YtodnlcbnbkkanaaGreatDoor
end
section
namespace Go.Proofs.YtodnlcbnbkkanaaGreatDoor
open Go Go.RowKit

/-- The numbers of a sort's productions. -/
def ofK (l : List ProdM) (n : Int) : List Int := (l.zipIdx.filter fun p => p.1.left == n).map fun p => (p.2 : Int)
theorem ofK_snoc (l : List ProdM) (x : ProdM) (n : Int) : ofK (l ++ [x]) n = ofK l n ++ if x.left == n then [(l.length : Int)] else [] := by
  unfold ofK
  rw [List.zipIdx_append, List.filter_append, List.map_append]
  congr 1
  simp only [List.zipIdx_cons, List.zipIdx_nil, List.filter_cons, List.filter_nil]
  split <;> simp
theorem ofK_len (l : List ProdM) (n : Int) : (ofK l n).length ≤ l.length := by
  unfold ofK
  rw [List.length_map]
  exact Nat.le_trans (List.length_filter_le _ _) (by simp)
/-- Of's answer. -/
def OfP (g : GramM) (n : Int) (e : Ending) (w' : World) : Prop :=
  if checkB g then (if numB n g.sorts.length then ∃ a c, e = .returned (.tuple #[.slice a (ofK g.prods n).length c, .int .i64 0]) ∧ RowInt w' a (ofK g.prods n) else e = .returned (.tuple #[.slice none 0 0, .int .i64 4])) else e = .returned (.tuple #[.slice none 0 0, .int .i64 160])
end Go.Proofs.YtodnlcbnbkkanaaGreatDoor
end
section
namespace Go.Proofs.YtodnlcbnbkkanaaGreatDoor
open Go Go.RowKit

/-- How many of the first i stay. -/
def cnt (p : Nat → Bool) (i : Nat) : Nat := (List.range i).countP p
/-- The new number of the i-th. -/
def plI (p : Nat → Bool) (i : Nat) : Int := if p i then cnt p i else -1
theorem cnt_succ (p : Nat → Bool) (i : Nat) : cnt p (i + 1) = if p i then cnt p i + 1 else cnt p i := by
  unfold cnt
  rw [List.range_succ, List.countP_append, List.countP_singleton]
  split <;> simp_all
theorem cnt_le (p : Nat → Bool) (i : Nat) : cnt p i ≤ i := by
  unfold cnt
  exact Nat.le_trans List.countP_le_length (by simp)

theorem set_self (cs : Array Value) (i : Nat) (v : Value) (h : i < cs.size) : (cs.setIfInBounds i v)[i]? = some v := by simp [h]
end Go.Proofs.YtodnlcbnbkkanaaGreatDoor
end
section
namespace Go.Proofs.YtodnlcbnbkkanaaGreatDoor
open Go Go.RowKit

theorem row_cells {α : Type} {cs : α → Array Value} {size : Nat} {G : World → α → Prop} (hk : ∀ x, (cs x).size = size) (hsz : 0 < size) {w : World} {b off : Nat} {l : List α} (h : RowOf size cs G w (some ⟨b, off, none⟩) l) :
    ∀ (j : Nat) (u : Value), (cellsL cs l)[j]? = some u → w.cell? ((⟨b, off, none⟩ : Addr).add j) = some u := by
  intro j u hj
  have hjl : j < l.length * size := by
    have := (List.getElem?_eq_some_iff.1 hj).1
    rw [cellsL_length hk] at this
    exact this
  have hi : j / size < l.length := Nat.div_lt_of_lt_mul (by rw [Nat.mul_comm]; exact hjl)
  have hr : j % size < size := Nat.mod_lt _ hsz
  have hjr : j / size * size + j % size = j := by rw [Nat.mul_comm]; exact Nat.div_add_mod j size
  obtain ⟨x, hx⟩ : ∃ x, l[j / size]? = some x := ⟨_, List.getElem?_eq_getElem hi⟩
  have hc := cellsL_at hk l (j / size) x hx (j % size) hr
  rw [hjr, hj] at hc
  obtain ⟨b', off', e, _, hcells, _⟩ := h (j / size) x hx
  cases e
  have := hcells (j % size) u hc.symm
  rw [add_off, ← hjr, ← Nat.add_assoc]
  exact this

section
variable {P : Program} {w : World} {ops : Array Oper} {rest : List Oper} {o : Oper} {a : Act} {Q : Exit → Act → World → Prop}
/-- 'append(s, x...)', x a list as it lies in memory. -/
theorem wpList_append_row {α : Type} {cs : α → Array Value} {G : World → α → Prop} (hgd : o.guard = none) (s x : Operand) (t : TypeId)
    (ho : o.op = .call { callee := .builtin .append, args := #[s, x], argTypes := #[t, t] })
    (base : Nat) (e : TypeId) (i : TypeInfo) (z : Value) (size bytes : Nat) (ht : P.underlying t = some (.slice e)) (hi : P.info? e = some i) (hz : i.zero = some z)
    (hsize : i.size = size) (hby : i.bytes = bytes) (hzs : z.cells.size = size) (hsz : 0 < size)
    (v : Value) (n : Nat) (xs : List Value) (hs : a.eval s = v) (hown : w.ownsRow base e size v n xs)
    (ad : Option Addr) (c : Nat) (l : List α) (hx : a.eval x = .slice ad l.length c) (hrow : RowOf size cs G w ad l) (hk : ∀ x, (cs x).size = size) (h1 : ∀ x, ∀ u ∈ (cs x).toList, u.oneCell' = true) (hnil : ad = none → c = 0)
    (h63 : n + l.length ≤ maxLen) (hbytes : (n + l.length) * bytes ≤ 140737488355328) (hbase : base ≤ w.heap.size)
    (h : ∀ v' w', w'.ownsRow base e size v' (n + l.length) (xs ++ cellsL cs l) → w.grownBy w' v.ownBlock → wpList P ops Q rest (a.put o.dst v') w') : wpList P ops Q (o :: rest) a w := by
  cases ad with
  | none =>
    have hl : l = [] := by
      cases l with
      | nil => rfl
      | cons y r => obtain ⟨_, _, e, _⟩ := hrow 0 y rfl; cases e
    subst hl
    rw [hnil rfl] at hx
    refine wpList_append_own_none hgd s x t ho base e i size ht hi v n xs hs hown hx (h v w ?_ (World.grownBy.refl _ _))
    simpa [cellsL] using hown
  | some p =>
    refine wpList_append_own w hgd s x t ho base e i z size bytes ht hi hz hsize hby hzs hsz v n xs hs hown p l.length c (cellsL cs l) hx (cellsL_length hk l) ?_ ?_ h63 hbytes hbase (fun v' w' r1 r2 _ => h v' w' r1 r2)
    · intro j u hj
      cases hl : l with
      | nil => rw [hl] at hj; simp [cellsL] at hj
      | cons y r =>
        obtain ⟨b, off, e, _⟩ := hrow 0 y (by rw [hl]; rfl)
        cases e
        exact row_cells hk hsz hrow j u hj
    · intro u hu
      unfold cellsL at hu
      obtain ⟨y, _, hy⟩ := List.mem_flatMap.1 hu
      exact h1 y u hy
end

/-- A store into a row of the call's own. -/
theorem own_set {w : World} {base e size n cap g : Nat} {xs : List Value} (h : w.ownsRow base e size (.slice (some ⟨g, 0, none⟩) n cap) n xs) (i : Nat) (u : Value) :
    (w.setCell ⟨g, i, none⟩ u).ownsRow base e size (.slice (some ⟨g, 0, none⟩) n cap) n (xs.set i u) := by
  refine ⟨by rw [List.length_set]; exact h.1, .inr ?_⟩
  rcases h.2 with ⟨h', _⟩ | ⟨g', cap', cur, h', h1, h2, h3, h4, h5, h6⟩
  · simp at h'
  · simp only [Value.slice.injEq, Option.some.injEq, Addr.mk.injEq, and_true, true_and] at h'
    obtain ⟨rfl, rfl⟩ := h'
    refine ⟨g, cap, cur.setIfInBounds i u, rfl, h1, Blk.set (show Blk w g e cur from h2) i u, h3, h4, by rw [Array.size_setIfInBounds]; exact h5, ?_⟩
    rw [Array.toList_setIfInBounds, ← h6, List.take_set]
end Go.Proofs.YtodnlcbnbkkanaaGreatDoor
end
section
namespace Go.Proofs.YtodnlcbnbkkanaaGreatDoor
open Go Go.RowKit

/-- Does a production stay? -/
def stayP (S : List Bool) (x : ProdM) : Bool := lv S x.left && sortsB (lv S) x
end Go.Proofs.YtodnlcbnbkkanaaGreatDoor
end
section
namespace Go.Proofs.YtodnlcbnbkkanaaGreatDoor
open Go Go.RowKit

/-- A symbol whose sort stands at another place. -/
def movS (p : Nat → Bool) (s : SymM) : SymM := if s.kind = 1 then ⟨s.kind, s.set, plI p s.sort.toNat⟩ else s
theorem Tryz.info60 : (Tryz.prog.info? 60).map (fun i => (i.zero, i.size, i.bytes)) = some (some (.agg #[.int .i64 0, .int .u64 0, .int .u64 0, .int .u64 0, .int .u64 0, .int .i64 0]), 6, 48) := by kernel_rfl
theorem sym_one (x : SymM) : ∀ u ∈ (symC x).toList, u.oneCell' = true := by simp [symC, Value.oneCell']

theorem cells_sort {l : List SymM} {k : Nat} {s : SymM} (h : l[k]? = some s) (v : Int) : (cellsL symC l).set (k * 6 + 5) (.int .i64 v) = cellsL symC (l.set k ⟨s.kind, s.set, v⟩) := by
  induction l generalizing k with
  | nil => simp at h
  | cons y r ih =>
    have e : ∀ (z : SymM) (q : List SymM), cellsL symC (z :: q) = (symC z).toList ++ cellsL symC q := fun z q => by simp [cellsL]
    cases k with
    | zero =>
      simp at h
      subst h
      rw [List.set_cons_zero, e, e]
      simp [symC]
    | succ k =>
      rw [List.set_cons_succ, e, e, List.set_append_right _ _ (by simp [symC]; omega), ← ih (by simpa using h)]
      congr 2
      simp [symC]; omega

theorem mov_step (p : Nat → Bool) (l : List SymM) (k : Nat) (s : SymM) (h : l[k]? = some s) : ((l.take k).map (movS p) ++ l.drop k).set k (movS p s) = (l.take (k + 1)).map (movS p) ++ l.drop (k + 1) := by
  have hk : k < l.length := (List.getElem?_eq_some_iff.1 h).1
  have hs : l[k] = s := (List.getElem?_eq_some_iff.1 h).2
  rw [List.set_append_right _ _ (by simp; omega), take_snoc l k s h, List.drop_eq_getElem_cons hk, hs]
  simp [Nat.min_eq_left (Nat.le_of_lt hk)]
theorem mov_at (p : Nat → Bool) (l : List SymM) (k : Nat) (s : SymM) (h : l[k]? = some s) : ((l.take k).map (movS p) ++ l.drop k)[k]? = some s := by
  have hk : k < l.length := (List.getElem?_eq_some_iff.1 h).1
  rw [List.getElem?_append_right (by simp; omega)]
  simp [Nat.min_eq_left (Nat.le_of_lt hk), h]

theorem own_slice {w : World} {base e size : Nat} {v : Value} {n : Nat} {xs : List Value} (h : w.ownsRow base e size v n xs) : ∃ a c, v = .slice a n c ∧ (∀ k, k < n → ∃ g, a = some ⟨g, 0, none⟩ ∧ base ≤ g) ∧ (a = none → c = 0) := by
  rcases h.2 with ⟨rfl, h0⟩ | ⟨g, cap, cur, rfl, hg, _⟩
  · exact ⟨none, 0, by rw [h0], fun k hk => by omega, fun _ => rfl⟩
  · exact ⟨_, cap, rfl, fun k hk => ⟨g, rfl, hg⟩, fun h => by cases h⟩

/-- A production moved: where its symbols lie is left open. -/
def movP (p : Nat → Bool) (ra : Option Addr) (rc : Nat) (x : ProdM) : ProdM := ⟨plI p x.left.toNat, ra, rc, x.right.map (movS p), x.cons, x.role, x.prefer, x.avoid, x.frm⟩
end Go.Proofs.YtodnlcbnbkkanaaGreatDoor
end
section
namespace Go.Proofs.YtodnlcbnbkkanaaGreatDoor
open Go Go.RowKit

theorem Tryz.info9 : (Tryz.prog.info? 9).map (fun i => (i.zero, i.size, i.bytes)) = some (some (.string ⟨#[]⟩), 1, 16) := by kernel_rfl
theorem Tryz.info65 : (Tryz.prog.info? 65).map (fun i => (i.zero, i.size, i.bytes)) = some (some (.agg #[.int .i64 0, .slice none 0 0, .string ⟨#[]⟩, .int .i64 0, .bool false, .bool false, .int .i64 0]), 7, 72) := by kernel_rfl
theorem Tryz.info85 : (Tryz.prog.info? 85).map (fun i => (i.zero, i.size, i.bytes)) = some (some (.agg #[.int .i64 0, .int .i64 0, .int .i64 0]), 3, 24) := by kernel_rfl
theorem Tryz.info87 : (Tryz.prog.info? 87).map (fun i => (i.zero, i.size, i.bytes)) = some (some (.agg #[.int .i64 0, .int .u64 0, .int .u64 0, .int .u64 0, .int .u64 0]), 5, 40) := by kernel_rfl

/-- Of a list those whose numbers stay. -/
def keepL {α : Type} (p : Nat → Bool) (l : List α) : List α := (l.zipIdx.filter fun q => p q.2).map (·.1)
theorem keepL_snoc {α : Type} (p : Nat → Bool) (l : List α) (x : α) : keepL p (l ++ [x]) = keepL p l ++ if p l.length then [x] else [] := by
  unfold keepL
  rw [List.zipIdx_append, List.filter_append, List.map_append]
  congr 1
  simp only [List.zipIdx_cons, List.zipIdx_nil, List.filter_cons, List.filter_nil, Nat.zero_add]
  split <;> simp
theorem keepL_len {α : Type} (p : Nat → Bool) (l : List α) : (keepL p l).length ≤ l.length := by
  unfold keepL
  rw [List.length_map]
  exact Nat.le_trans (List.length_filter_le _ _) (by simp)
/-- What is forbidden, moved, if it stays. -/
def movF (p : Nat → Bool) (f : ForM) : Option ForM := if plI p f.parent.toNat ≠ -1 ∧ plI p f.child.toNat ≠ -1 then some ⟨plI p f.parent.toNat, f.at_, plI p f.child.toNat⟩ else none
def movW (p : Nat → Bool) (f : FolM) : Option FolM := if plI p f.sort.toNat ≠ -1 then some ⟨plI p f.sort.toNat, f.not⟩ else none
/-- A production, wherever its symbols lie. -/
def bareP (x : ProdM) : ProdM := ⟨x.left, none, 0, x.right, x.cons, x.role, x.prefer, x.avoid, x.frm⟩

/-- Rows of unlike things lie apart. -/
theorem own_other {w W : World} {b b' e e' s s' : Nat} {v v' : Value} {n n' : Nat} {xs xs' : List Value} (h : w.ownsRow b e s v n xs) (h' : w.ownsRow b' e' s' v' n' xs') (hne : e ≠ e') (hg : w.grownBy W v'.ownBlock) : W.ownsRow b e s v n xs := by
  refine ⟨h.1, ?_⟩
  rcases h.2 with h1 | ⟨g, cap, cur, h1, h2, h3, h4⟩
  · exact .inl h1
  · refine .inr ⟨g, cap, cur, h1, h2, ?_, h4⟩
    rw [hg.block g (Array.getElem?_eq_some_iff.1 h3).1 (fun e1 => ?_)]
    · exact h3
    · rcases h'.2 with ⟨rfl, _⟩ | ⟨g', cap', cur', rfl, _, h3', _⟩
      · cases e1
      · have : g = g' := by simpa [Value.ownBlock] using e1
        subst this
        rw [h3] at h3'
        cases h3'
        exact hne rfl
theorem low_ne {w : World} {base e size : Nat} {v : Value} {n : Nat} {xs : List Value} (h : w.ownsRow base e size v n xs) {B : Nat} (hB : B < base) : some B ≠ v.ownBlock := by
  rcases h.2 with ⟨rfl, _⟩ | ⟨g, cap, cur, rfl, hg, _⟩
  · intro e; cases e
  · intro e
    have : B = g := by simpa [Value.ownBlock] using e
    omega
theorem own_put {w : World} {base e size : Nat} {v : Value} {n : Nat} {xs : List Value} (h : w.ownsRow base e size v n xs) {B i : Nat} (hB : B < base) (u : Value) : (w.setCell ⟨B, i, none⟩ u).ownsRow base e size v n xs := ownsRow_setCell_below h (a := ⟨B, i, none⟩) hB u

section
variable {g : GramM} {pS pP : Nat → Bool} {w : World} {P1 P2 Bo N0 : Nat} {st : Int} {v0 v1 v3 v4 : Value} {ss : List ByteArray} {ps : List ProdM} {fs : List ForM} {ws : List FolM} {wr W : World}
end
end Go.Proofs.YtodnlcbnbkkanaaGreatDoor
end
section
namespace Go.Proofs.YtodnlcbnbkkanaaGreatDoor
open Go Go.RowKit

/-- Which sorts, which productions stay. -/
def sP (S : List Bool) (i : Nat) : Bool := lv S i
def pP (g : GramM) (S : List Bool) (i : Nat) : Bool := match g.prods[i]? with | some x => stayP S x | none => false

/-- What is left, but for where it lies. -/
structure KeptM (g : GramM) (S : List Bool) (h : GramM) : Prop where
  sorts : h.sorts = keepL (sP S) g.sorts
  start : h.start = plI (sP S) g.start.toNat
  prods : h.prods.map bareP = (keepL (pP g S) g.prods).map fun x => bareP (movP (sP S) none 0 x)
  forbid : h.forbid = g.forbid.filterMap (movF (pP g S))
  follow : h.follow = g.follow.filterMap (movW (sP S))
/-- What is nil has no capacity. -/
structure NilOK (g : GramM) : Prop where
  s : g.sa = none → g.sc = 0
  p : g.pa = none → g.pc = 0
  f : g.fa = none → g.fc = 0
  w : g.wa = none → g.wc = 0
  r : ∀ x, x ∈ g.prods → x.ra = none → x.rc = 0

/-- A grammar whose lists lie from a block on: what is below may be written. -/
def GFar (N : Nat) (w : World) (h : GramM) : Prop := ∀ W : World, (∀ k, N ≤ k → k < w.heap.size → W.heap[k]? = w.heap[k]?) → GIn W h
theorem own_far {w W : World} {b e s n : Nat} {v : Value} {xs : List Value} (h : w.ownsRow b e s v n xs) {N : Nat} (hN : N ≤ b) (hW : ∀ k, N ≤ k → k < w.heap.size → W.heap[k]? = w.heap[k]?) : W.ownsRow b e s v n xs := by
  refine ⟨h.1, ?_⟩
  rcases h.2 with h1 | ⟨g, cap, cur, h1, h2, h3, h4⟩
  · exact .inl h1
  · exact .inr ⟨g, cap, cur, h1, h2, (hW g (Nat.le_trans hN h2) (Array.getElem?_eq_some_iff.1 h3).1).trans h3, h4⟩
theorem keep_mid {α : Type} (p : Nat → Bool) (l : List α) (k : Nat) (x : α) (h : l[k]? = some x) : keepL p (l.take (k + 1)) = keepL p (l.take k) ++ if p k then [x] else [] := by
  have hk : k < l.length := (List.getElem?_eq_some_iff.1 h).1
  rw [take_snoc l k x h, keepL_snoc, List.length_take, Nat.min_eq_left (Nat.le_of_lt hk)]
theorem plI_neq (p : Nat → Bool) (k : Nat) (h : p k = true) : ∃ c : Nat, plI p k = c := ⟨cnt p k, by unfold plI; rw [h]; rfl⟩
theorem plI_gone (p : Nat → Bool) (k : Nat) (h : p k = false) : plI p k = -1 := by unfold plI; rw [h]; rfl

theorem high_ne {w : World} {base e size : Nat} {v : Value} {n : Nat} {xs : List Value} (h : w.ownsRow base e size v n xs) {B : Nat} (hB : w.heap.size ≤ B) : some B ≠ v.ownBlock := by
  rcases h.2 with ⟨rfl, _⟩ | ⟨g, cap, cur, rfl, _, hg, _⟩
  · intro e; cases e
  · intro e
    have h1 : B = g := by simpa [Value.ownBlock] using e
    have h2 := (Array.getElem?_eq_some_iff.1 hg).1
    omega
theorem cells7 {W : World} {B : Nat} {u0 u1 u2 u3 u4 u5 u6 : Value} (h : Blk W B 65 #[u0, u1, u2, u3, u4, u5, u6]) : W.cell? ⟨B, 0, none⟩ = some u0 ∧ W.cell? ⟨B, 1, none⟩ = some u1 ∧ W.cell? ⟨B, 2, none⟩ = some u2 ∧ W.cell? ⟨B, 3, none⟩ = some u3 ∧ W.cell? ⟨B, 4, none⟩ = some u4 ∧ W.cell? ⟨B, 5, none⟩ = some u5 ∧ W.cell? ⟨B, 6, none⟩ = some u6 :=
  ⟨h.cell 0, h.cell 1, h.cell 2, h.cell 3, h.cell 4, h.cell 5, h.cell 6⟩
theorem fm_snoc {α β : Type} (f : α → Option β) (l : List α) (x : α) : (l ++ [x]).filterMap f = l.filterMap f ++ (f x).toList := by
  rw [List.filterMap_append]
  congr 1
theorem own_rowS {α : Type} {cs : α → Array Value} {k : Nat} {G : World → α → Prop} (hk : ∀ x, (cs x).size = k) {w : World} {n₀ e : Nat} {a : Option Addr} {c : Nat} {l : List α} (h : w.ownsRow n₀ e k (.slice a l.length c) l.length (cellsL cs l))
    (hG : ∀ x, x ∈ l → G w x) : RowOf k cs G w a l ∧ (a = none → c = 0) := by
  obtain ⟨a', c', e1, h1⟩ := own_row hk h hG
  obtain ⟨a2, c2, e2, _, h2⟩ := own_slice h
  cases e1
  cases e2
  exact ⟨h1, h2⟩
theorem plI_neg (p : Nat → Bool) (k : Nat) : (plI p k == -1) = !(p k) := by
  unfold plI
  split
  · next h => rw [h]; simp
  · next h => simp [h]
end Go.Proofs.YtodnlcbnbkkanaaGreatDoor
end
section
namespace Go.Proofs.YtodnlcbnbkkanaaGreatDoor
open Go Go.RowKit

/-! A row of productions in a block of its own. -/

/-- The cells of a thing stand from k on. -/
def CsAt (cs : Array Value) (k : Nat) (vs : Array Value) : Prop := ∀ j v, vs[j]? = some v → cs[k + j]? = some v
/-- Cells put in from k on. -/
def putC (cs : Array Value) (k : Nat) : List Value → Array Value
  | [] => cs
  | v :: r => putC (cs.setIfInBounds k v) (k + 1) r
theorem putC_size (l : List Value) : ∀ (cs : Array Value) (k : Nat), (putC cs k l).size = cs.size := by
  induction l with
  | nil => intro cs k; rfl
  | cons v r ih => intro cs k; rw [putC, ih, Array.size_setIfInBounds]
theorem putC_out (l : List Value) : ∀ (cs : Array Value) (k i : Nat), i < k ∨ k + l.length ≤ i → (putC cs k l)[i]? = cs[i]? := by
  induction l with
  | nil => intro cs k i _; rfl
  | cons v r ih =>
    intro cs k i h
    rw [putC, ih _ _ _ (by simp at h; omega), Array.getElem?_setIfInBounds_ne (by simp at h; omega)]
theorem putC_in (l : List Value) : ∀ (cs : Array Value) (k j : Nat) (v : Value), l[j]? = some v → k + l.length ≤ cs.size → (putC cs k l)[k + j]? = some v := by
  induction l with
  | nil => intro cs k j v h; simp at h
  | cons u r ih =>
    intro cs k j v h hs
    simp at hs
    rw [putC]
    cases j with
    | zero =>
      simp at h; subst h
      rw [putC_out _ _ _ _ (.inl (by omega)), Nat.add_zero, Array.getElem?_setIfInBounds_self_of_lt (by omega)]
    | succ j =>
      have := ih (cs.setIfInBounds k u) (k + 1) j v (by simpa using h) (by simp; omega)
      rw [show k + (j + 1) = k + 1 + j by omega]
      exact this
theorem Blk.setCells {B t : Nat} : ∀ (vs : List Value) {W : World} {cs : Array Value} (k : Nat), Blk W B t cs → Blk (W.setCells B k vs) B t (putC cs k vs) := by
  intro vs
  induction vs with
  | nil => intro W cs k h; exact h
  | cons v r ih => intro W cs k h; exact ih (k + 1) (h.set k v)
theorem CsAt.put {cs vs : Array Value} {k : Nat} (h : k + vs.size ≤ cs.size) : CsAt (putC cs k vs.toList) k vs := fun j v hj => by
  exact putC_in _ _ _ _ _ (by simpa using hj) (by simpa using h)
theorem CsAt.off {cs us : Array Value} {k m : Nat} {l : List Value} (h : CsAt cs m us) (hk : m + us.size ≤ k ∨ k + l.length ≤ m) : CsAt (putC cs k l) m us := fun j v hj => by
  have := (Array.getElem?_eq_some_iff.1 hj).1
  rw [putC_out _ _ _ _ (by omega)]
  exact h j v hj
theorem CsAt.cells {W : World} {B t k : Nat} {cs vs : Array Value} (hb : Blk W B t cs) (h : CsAt cs k vs) : CellsAt W B k vs := fun j v hj => (hb.cell _).trans (h j v hj)
theorem grown_setCells (B : Nat) : ∀ (vs : List Value) (k : Nat) (W : World), W.grownBy (W.setCells B k vs) (some B) := by
  intro vs
  induction vs with
  | nil => intro k W; exact World.grownBy.refl _ _
  | cons v r ih => intro k W; exact grown_trans (grown_set W B k v) (ih (k + 1) _)

/-- Productions in a block, from off on. -/
def PRow (cs : Array Value) (off : Nat) (l : List ProdM) (j : Nat) : Prop := ∀ (m : Nat) (x : ProdM), j ≤ m → l[m]? = some x → CsAt cs (off + m * 7) (prodC x)

/-- 'clear' of the end of a slice of productions. -/
theorem run_clear_prods (w : World) (b o n c : Nat) (hn : 0 < n)
    (hc : ∀ j, j < n * 7 → (w.cell? ⟨b, o + j, none⟩).isSome = true) (hf : ∀ j, j < n * 7 → w.frozen? ⟨b, o + j, none⟩ = false) :
    ∃ vs : List Value, vs.length = n * 7 ∧ ∀ ty, (Builtin.clear_ #[23] ty #[.slice (some ⟨b, o, none⟩) n c]).run Tryz.prog w = .ok (.tuple #[]) (w.setCells b o vs) := by
  have ht : Tryz.prog.underlying 23 = some (.slice 65) := by kernel_rfl
  have hv : ∀ w, (zeroValue 65).run Tryz.prog w = .ok (.agg #[.int .i64 0, .slice none 0 0, .string ⟨#[]⟩, .int .i64 0, .bool false, .bool false, .int .i64 0]) w := fun _ => by kernel_rfl
  have hl : (Builtin.zeroCells (Value.agg #[.int .i64 0, .slice none 0 0, .string ⟨#[]⟩, .int .i64 0, .bool false, .bool false, .int .i64 0]).cells n).toList.length = n * 7 := by
    simp [Builtin.zeroCells, Value.cells]
  refine ⟨(Builtin.zeroCells (Value.agg #[.int .i64 0, .slice none 0 0, .string ⟨#[]⟩, .int .i64 0, .bool false, .bool false, .int .i64 0]).cells n).toList, hl, ?_⟩
  have hst := run_storeCells_cells (P := Tryz.prog) b o (Builtin.zeroCells (Value.agg #[.int .i64 0, .slice none 0 0, .string ⟨#[]⟩, .int .i64 0, .bool false, .bool false, .int .i64 0]).cells n).toList 0 w (fun j hj => by simpa using hc j (by rw [← hl]; simpa using hj)) (fun j hj => by simpa using hf j (by rw [← hl]; simpa using hj)) (fun v hv => by
    simp [Builtin.zeroCells, Value.cells] at hv
    obtain ⟨i, _, rfl⟩ := hv
    have h7 : i % 7 < 7 := Nat.mod_lt _ (by decide)
    generalize i % 7 = r at *
    have h : r = 0 ∨ r = 1 ∨ r = 2 ∨ r = 3 ∨ r = 4 ∨ r = 5 ∨ r = 6 := by omega
    rcases h with rfl | rfl | rfl | rfl | rfl | rfl | rfl <;> rfl)
  simp only [Nat.add_zero] at hst
  obtain ⟨m, rfl⟩ : ∃ m, n = m + 1 := ⟨n - 1, by omega⟩
  intro ty
  simp [Builtin.clear_, run_underlying ht, hv, hst]

/-- What stays of a list when a closure, asked of each in turn, says q, and takes a state on by f: the closure's steps. -/
structure DelBy {σ : Type} (K : Nat) (lb : Array Value) (B off : Nat) (l : List ProdM) (q : ProdM → Bool) (f : σ → ProdM → σ) (Inv : σ → World → Prop) : Prop where
  call : ∀ (s : σ) (W : World) (p : ProdM), p ∈ l → Inv s W → Calls Tryz.prog K (#[prodV p] ++ lb) W fun e w' => e = .returned (.bool (q p)) ∧ Inv (f s p) w' ∧ (∀ b cs, Blk W b 65 cs → Blk w' b 65 cs)
  grown : ∀ (s : σ) (W W' : World), Inv s W → W.grownBy W' (some B) → Inv s W'

theorem take_fold {σ : Type} (f : σ → ProdM → σ) (s0 : σ) (l : List ProdM) (j : Nat) (x : ProdM) (h : l[j]? = some x) : (l.take (j + 1)).foldl f s0 = f ((l.take j).foldl f s0) x := by
  rw [take_snoc l j x h, List.foldl_append]; rfl

set_option maxRecDepth 100000 in
set_option maxHeartbeats 4000000 in
/-- slices.IndexFunc over productions, with a closure that takes a state on. -/
theorem indexSt_any {σ : Type} (K : Nat) (lb : Array Value) (eg : ∀ args w, (callFunc K args).run Tryz.prog w = .ok (.enter K args) w) (B off : Nat) (c : Nat) (l : List ProdM) (q : ProdM → Bool) (f : σ → ProdM → σ) (Inv : σ → World → Prop)
    (D : DelBy K lb B off l q f Inv) (hn : l.length ≤ 1048576) (cs : Array Value) (w : World) (hb : Blk w B 65 cs) (hr : PRow cs off l 0) (s0 : σ) (h0 : Inv s0 w) :
    Calls Tryz.prog 133 #[.slice (some ⟨B, off, none⟩) l.length c, .func (.func K) #[] lb] w fun e w' => ∃ m : Nat, m ≤ l.length ∧ e = .returned (.int .i64 (if m = l.length then -1 else (m : Int))) ∧ Inv ((l.take (m + 1)).foldl f s0) w' ∧ Blk w' B 65 cs ∧
      (∀ i x, i < m → l[i]? = some x → q x = false) ∧ (∀ x, l[m]? = some x → q x = true) := by
  have HD := Lib.hid D
  have HR := Lib.hid hr
  have H0 := Lib.hid (And.intro h0 hb)
  obtain ⟨n, hln⟩ : ∃ n, n = l.length := ⟨_, rfl⟩
  rw [← hln] at hn ⊢
  have HN := Lib.hid hln
  clear hln D hr h0 hb
  go_enter Tryz.func133, Tryz.ntmps133
  go_wp2
  go_loopw [8] (fun i wr => ∃ (m : Nat), i = .int .i64 m ∧ m ≤ n ∧ Hid (Inv ((l.take m).foldl f s0) wr ∧ Blk wr B 65 cs ∧ ∀ i x, i < m → l[i]? = some x → q x = false))
    (fun i _ => n - (intOf i).toNat)
  case atStart => exact ⟨0, rfl, Nat.zero_le _, Lib.hid ⟨H0.out.1, H0.out.2, fun i x hi => by omega⟩⟩
  case round =>
    clear H0
    obtain ⟨m, rfl, hm, hS⟩ := hrel
    by_cases hlt : m < n
    · obtain ⟨x, hx⟩ : ∃ x, l[m]? = some x := ⟨_, List.getElem?_eq_getElem (by rw [← HN.out]; exact hlt)⟩
      have HX := Lib.hid hx
      have hbr := hS.out.2.1.lt
      obtain ⟨c0, c1, c2, c3, c4, c5, c6⟩ := Prod_at ((HR.out m x (Nat.zero_le _) hx).cells hS.out.2.1)
      have HC := Lib.hid (HD.out.call _ wr x (List.mem_of_getElem? hx) hS.out.1)
      have HT := Lib.hid (take_fold f s0 l m x hx)
      have HQ : Hid (q x = false → ∀ i y, i < m + 1 → l[i]? = some y → q y = false) := Lib.hid (fun h i y hi hy => by
        by_cases e : i = m
        · subst e; rw [HX.out] at hy; cases hy; exact h
        · exact hS.out.2.2 i y (by omega) hy)
      have HQ1 : Hid (∀ i y, i < m → l[i]? = some y → q y = false) := Lib.hid hS.out.2.2
      have HB := Lib.hid hS.out.2.1
      have HQX : Hid (q x = true → ∀ y, l[m]? = some y → q y = true) := Lib.hid (fun h y hy => by rw [HX.out] at hy; cases hy; exact h)
      clear hx hS
      have n1 : (m : Int) < (n : Int) := by omega
      have n0 : (0 : Int) ≤ (m : Int) := by omega
      unfold prodV prodC at HC
      generalize q x = r at *
      go_wp2_with fail
      refine HC.out.mono ?_
      rintro e w3 ⟨rfl, hi3, hk3⟩
      have HI3 := Lib.hid hi3
      have HK3 := Lib.hid (hk3 _ _ HB.out)
      clear hi3 hk3 HC c0 c1 c2 c3 c4 c5 c6 HB
      cases r with
      | true =>
        have HQX2 := Lib.hid (HQX.out rfl)
        have hne : ¬ m = n := by omega
        clear HQX HQ
        go_wp2
        go_ret
        exact ⟨m, hm, by rw [if_neg hne]; rfl, by rw [HT.out]; exact HI3.out, HK3.out, HQ1.out, HQX2.out⟩
      | false =>
        have HQ2 := Lib.hid (HQ.out rfl)
        clear HQX HQ
        go_wp2
        go_roundw
        case rel => exact ⟨m + 1, by go_num, by omega, Lib.hid ⟨by rw [HT.out]; exact HI3.out, HK3.out, HQ2.out⟩⟩
        case measure => simp [intOf]; omega
    · obtain rfl : m = n := by omega
      have HT : Hid (l.take (m + 1) = l.take m) := Lib.hid (by rw [List.take_of_length_le (by have := HN.out; omega), List.take_of_length_le (by have := HN.out; omega)])
      go_wp2
      go_ret
      exact ⟨m, Nat.le_refl _, by rw [if_pos rfl]; rfl, by rw [HT.out]; exact hS.out.1, hS.out.2.1, hS.out.2.2, fun x hx => by
        have := (List.getElem?_eq_some_iff.1 hx).1
        have := HN.out
        omega⟩

theorem PRow.lt {cs : Array Value} {off : Nat} {l : List ProdM} (h : PRow cs off l 0) {m : Nat} (hm : m < l.length) : off + m * 7 + 7 ≤ cs.size := by
  have := h m _ (Nat.zero_le _) (List.getElem?_eq_getElem hm) 6 _ rfl
  have := (Array.getElem?_eq_some_iff.1 this).1
  omega
theorem PRow.zero {cs : Array Value} {off : Nat} {l : List ProdM} {j : Nat} (h : PRow cs off l j) (hj : ∀ (m : Nat) (x : ProdM), m < j → l[m]? = some x → CsAt cs (off + m * 7) (prodC x)) : PRow cs off l 0 := fun m x _ hx => by
  by_cases e : m < j
  · exact hj m x e hx
  · exact h m x (by omega) hx
/-- How far DeleteFunc has come. -/
structure DI (cs0 : Array Value) (off : Nat) (l : List ProdM) (q : ProdM → Bool) (i j : Nat) (cs : Array Value) : Prop where
  size : cs.size = cs0.size
  len : ((l.take j).filter fun x => !q x).length = i
  low : PRow cs off ((l.take j).filter fun x => !q x) 0
  high : PRow cs off l j
  lt : i < j
theorem DI.skip {cs0 : Array Value} {off : Nat} {l : List ProdM} {q : ProdM → Bool} {i j : Nat} {cs : Array Value} (h : DI cs0 off l q i j cs) {x : ProdM} (hx : l[j]? = some x) (hq : q x = true) : DI cs0 off l q i (j + 1) cs := by
  have e : (l.take (j + 1)).filter (fun x => !q x) = (l.take j).filter fun x => !q x := by
    rw [take_snoc l j x hx, List.filter_append]
    simp [hq]
  exact ⟨h.size, by rw [e]; exact h.len, by rw [e]; exact h.low, fun m y hm hy => h.high m y (by omega) hy, by have := h.lt; omega⟩
theorem DI.keep {cs0 : Array Value} {off : Nat} {l : List ProdM} {q : ProdM → Bool} {i j : Nat} {cs : Array Value} (h : DI cs0 off l q i j cs) {x : ProdM} (hx : l[j]? = some x) (hq : q x = false) (hs : off + i * 7 + 7 ≤ cs0.size) : DI cs0 off l q (i + 1) (j + 1) (putC cs (off + i * 7) (prodC x).toList) := by
  have e : (l.take (j + 1)).filter (fun x => !q x) = ((l.take j).filter fun x => !q x) ++ [x] := by
    rw [take_snoc l j x hx, List.filter_append]
    simp [hq]
  refine ⟨by rw [putC_size]; exact h.size, by rw [e, List.length_append, h.len]; rfl, ?_, fun m y hm hy => (h.high m y (by omega) hy).off (.inr ?_), by have := h.lt; omega⟩
  · rw [e]
    intro m y _ hy
    rw [List.getElem?_append] at hy
    split at hy
    · next hm => exact (h.low m y (Nat.zero_le _) hy).off (.inl (by rw [h.len] at hm; show off + m * 7 + 7 ≤ _; omega))
    · next hm =>
      have : m = i := by
        have := (List.getElem?_eq_some_iff.1 hy).1
        rw [h.len] at this hm
        simp at this
        omega
      subst this
      rw [h.len, Nat.sub_self] at hy
      cases hy
      exact CsAt.put (by show off + m * 7 + 7 ≤ _; rw [h.size]; omega)
  · show off + i * 7 + 7 ≤ _
    have := h.lt
    omega

set_option maxRecDepth 100000 in
set_option maxHeartbeats 8000000 in
/-- slices.DeleteFunc over productions, with a closure that takes a state on. -/
theorem deleteSt_any {σ : Type} (K : Nat) (lb : Array Value) (eg : ∀ args w, (callFunc K args).run Tryz.prog w = .ok (.enter K args) w) (B off : Nat) (c : Nat) (l : List ProdM) (q : ProdM → Bool) (f : σ → ProdM → σ) (Inv : σ → World → Prop)
    (D : DelBy K lb B off l q f Inv) (hn : l.length ≤ 1048576) (hc : l.length ≤ c) (cs : Array Value) (w : World) (hb : Blk w B 65 cs) (hr : PRow cs off l 0) (s0 : σ) (h0 : Inv s0 w) :
    Calls Tryz.prog 97 #[.slice (some ⟨B, off, none⟩) l.length c, .func (.func K) #[] lb] w fun e w' => ∃ cs', e = .returned (.slice (some ⟨B, off, none⟩) (l.filter fun x => !q x).length c) ∧ Inv (l.foldl f s0) w' ∧ Blk w' B 65 cs' ∧ cs'.size = cs.size ∧ PRow cs' off (l.filter fun x => !q x) 0 := by
  have HI := Lib.hid (indexSt_any K lb eg B off c l q f Inv D hn cs w hb hr s0 h0)
  have HD := Lib.hid D
  have HR := Lib.hid hr
  obtain ⟨n, hln⟩ : ∃ n, n = l.length := ⟨_, rfl⟩
  rw [← hln] at hn hc HI ⊢
  have HN := Lib.hid hln
  clear hln D hr h0 hb
  go_enter Tryz.func97, Tryz.ntmps97
  go_wp2_with fail
  refine HI.out.mono ?_
  rintro e w1 ⟨m, hm, rfl, hi1, hb1, hq0, hq1⟩
  have HI1 := Lib.hid hi1
  have HB1 := Lib.hid hb1
  have HQ0 := Lib.hid hq0
  have HQ1 := Lib.hid hq1
  clear hi1 hb1 hq0 hq1 HI
  by_cases hmn : m = n
  · subst hmn
    have e1 : Hid (l.filter (fun x => !q x) = l) := Lib.hid (List.filter_eq_self.2 fun x hx => by
      obtain ⟨i, hi⟩ := List.mem_iff_getElem?.1 hx
      rw [HQ0.out i x (by have := (List.getElem?_eq_some_iff.1 hi).1; have := HN.out; omega) hi]; rfl)
    have e2 : Hid (l.take (m + 1) = l) := Lib.hid (List.take_of_length_le (by have := HN.out; omega))
    rw [if_pos rfl]
    go_wp2
    go_ret
    exact ⟨cs, by rw [e1.out, ← HN.out]; rfl, by have := HI1.out; rw [e2.out] at this; exact this, HB1.out, rfl, by rw [e1.out]; exact HR.out⟩
  · rw [if_neg hmn]
    have hlt : m < n := by omega
    have h1 : ((m : Int) == -1) = false := by rw [beq_eq_false_iff_ne]; omega
    have hS0 : Hid (DI cs off l q m (m + 1) cs) := Lib.hid (by
      have hml : m < l.length := by rw [← HN.out]; exact hlt
      have hx := List.getElem?_eq_getElem hml
      have e1 : (l.take m).filter (fun x => !q x) = l.take m := List.filter_eq_self.2 fun x hx => by
        obtain ⟨i, hi⟩ := List.mem_iff_getElem?.1 hx
        rw [List.getElem?_take] at hi
        split at hi
        · rw [HQ0.out i x (by assumption) hi]; rfl
        · cases hi
      have e : (l.take (m + 1)).filter (fun x => !q x) = l.take m := by
        rw [take_snoc l m _ hx, List.filter_append, e1]
        simp [HQ1.out _ hx]
      refine ⟨rfl, by rw [e, List.length_take]; omega, ?_, fun i x hi hx => HR.out i x (Nat.zero_le _) hx, by omega⟩
      rw [e]
      intro i x _ hi
      rw [List.getElem?_take] at hi
      split at hi
      · exact HR.out i x (Nat.zero_le _) hi
      · cases hi)
    clear hmn HQ0 HQ1
    go_wp2
    go_loopw [5, 6] (fun vi vj wr => ∃ (i j : Nat), vi = .int .i64 i ∧ vj = .int .i64 j ∧ j ≤ n ∧ ∃ cs', Hid (Inv ((l.take j).foldl f s0) wr ∧ Blk wr B 65 cs' ∧ DI cs off l q i j cs')) (fun _ vj _ => n - (intOf vj).toNat)
    case atStart => exact ⟨m, m + 1, rfl, by go_num, by omega, cs, Lib.hid ⟨HI1.out, HB1.out, hS0.out⟩⟩
    case round =>
      clear hS0 HI1 HB1
      obtain ⟨i, j, rfl, rfl, hj, cs', hS⟩ := hrel
      have hij := hS.out.2.2.lt
      by_cases hjn : j < n
      · obtain ⟨x, hx⟩ : ∃ x, l[j]? = some x := ⟨_, List.getElem?_eq_getElem (by rw [← HN.out]; exact hjn)⟩
        have HX := Lib.hid hx
        have hbr := hS.out.2.1.lt
        obtain ⟨c0, c1, c2, c3, c4, c5, c6⟩ := Prod_at ((hS.out.2.2.high j x (Nat.le_refl _) hx).cells hS.out.2.1)
        have HT := Lib.hid (take_fold f s0 l j x hx)
        have n1 : (j : Int) < (n : Int) := by omega
        have n0 : (0 : Int) ≤ (j : Int) := by omega
        have HC := Lib.hid (HD.out.call _ (wr.alloc (.cells (prodC x) 65)) x (List.mem_of_getElem? hx) (HD.out.grown _ _ _ hS.out.1 (World.grownBy_alloc _ _ _)))
        have HK := Lib.hid (hS.out.2.1.alloc (.cells (prodC x) 65))
        have HK1 := Lib.hid (Blk.new wr 65 (prodC x))
        have HDI := Lib.hid hS.out.2.2
        clear hx hS
        unfold prodV prodC at HC
        obtain ⟨r, hr⟩ : ∃ r, r = q x := ⟨_, rfl⟩
        have HRr := Lib.hid hr
        rw [← hr] at HC
        clear hr
        go_wp2_with fail
        refine HC.out.mono ?_
        rintro e w3 ⟨rfl, hi3, hk3⟩
        have HI3 := Lib.hid hi3
        have HK3 := Lib.hid (hk3 _ _ HK.out)
        have HK4 := Lib.hid (hk3 _ _ HK1.out)
        clear hi3 hk3 HC c0 c1 c2 c3 c4 c5 c6 HK HK1
        cases r with
        | true =>
          have HZ := Lib.hid (HDI.out.skip HX.out HRr.out.symm)
          go_wp2
          go_roundw
          case rel => exact ⟨i, j + 1, rfl, by go_num, by omega, cs', Lib.hid ⟨by rw [HT.out]; exact HI3.out, HK3.out, HZ.out⟩⟩
          case measure => simp [intOf]; omega
        | false =>
          have hin : off + i * 7 + 7 ≤ cs.size := HR.out.lt (by rw [← HN.out]; omega)
          have HZ := Lib.hid (HDI.out.keep HX.out HRr.out.symm hin)
          have HPut := Lib.hid (Blk.setCells (prodC x).toList (off + i * 7) HK3.out)
          have HG := Lib.hid (HD.out.grown _ _ _ HI3.out (grown_setCells B (prodC x).toList (off + i * 7) w3))
          have hsz := HDI.out.size
          have old : ∀ r, r < 7 → ∃ v, w3.cell? ⟨B, off + i * 7 + r, none⟩ = some v := fun r hr => ⟨_, (HK3.out.cell _).trans (Array.getElem?_eq_getElem (by omega))⟩
          obtain ⟨v0, o0⟩ := old 0 (by omega)
          obtain ⟨v1, o1⟩ := old 1 (by omega)
          obtain ⟨v2, o2⟩ := old 2 (by omega)
          obtain ⟨v3, o3⟩ := old 3 (by omega)
          obtain ⟨v4, o4⟩ := old 4 (by omega)
          obtain ⟨v5, o5⟩ := old 5 (by omega)
          obtain ⟨v6, o6⟩ := old 6 (by omega)
          rw [Nat.add_zero] at o0
          have g0 := HK3.out.frozen (off + i * 7)
          have g1 := HK3.out.frozen (off + i * 7 + 1)
          have g2 := HK3.out.frozen (off + i * 7 + 2)
          have g3 := HK3.out.frozen (off + i * 7 + 3)
          have g4 := HK3.out.frozen (off + i * 7 + 4)
          have g5 := HK3.out.frozen (off + i * 7 + 5)
          have g6 := HK3.out.frozen (off + i * 7 + 6)
          obtain ⟨c0, c1, c2, c3, c4, c5, c6⟩ := cells7 HK4.out
          have l3 := HK3.out.lt
          have l4 := HK4.out.lt
          have i1 : (i : Int) < (n : Int) := by omega
          have i0 : (0 : Int) ≤ (i : Int) := by omega
          clear old hsz HDI hin
          go_wp2
          go_roundw
          case rel => exact ⟨i + 1, j + 1, by go_num, by go_num, by omega, _, Lib.hid ⟨by rw [HT.out]; exact HG.out, HPut.out, HZ.out⟩⟩
          case measure => simp [intOf]; omega
      · obtain rfl : n = j := by omega
        have HB := Lib.hid hS.out.2.1
        have hfl : Hid (l.take n = l) := Lib.hid (List.take_of_length_le (by have := HN.out; omega))
        have HDI : Hid (DI cs off l q i n cs') := Lib.hid hS.out.2.2
        have hlast : off + (n - 1) * 7 + 7 ≤ cs'.size := by
          have := HR.out.lt (m := n - 1) (by rw [← HN.out]; omega)
          rw [HDI.out.size]; exact this
        obtain ⟨vs, hvl, hcl⟩ : ∃ vs : List Value, vs.length = (n - i) * 7 ∧ ∀ ty, (Builtin.clear_ #[23] ty #[.slice (some ⟨B, off + i * 7, none⟩) (n - i) (c - i)]).run Tryz.prog wr = .ok (.tuple #[]) (wr.setCells B (off + i * 7) vs) := by
          exact run_clear_prods wr B (off + i * 7) (n - i) (c - i) (by omega) (fun j hj => by rw [HB.out.cell, Array.getElem?_eq_getElem (by omega)]; rfl) (fun j _ => HB.out.frozen _)
        have HPut := Lib.hid (Blk.setCells vs (off + i * 7) HB.out)
        have HG := Lib.hid (HD.out.grown _ _ _ hS.out.1 (grown_setCells B vs (off + i * 7) wr))
        have HL : Hid (PRow (putC cs' (off + i * 7) vs) off (l.filter fun x => !q x) 0) := Lib.hid (fun m x hm hx => by
          have e := HDI.out.len
          have lo := HDI.out.low
          rw [hfl.out] at e lo
          refine (lo m x hm hx).off (.inl ?_)
          have := (List.getElem?_eq_some_iff.1 hx).1
          show off + m * 7 + 7 ≤ _
          omega)
        have HE : Hid ((l.filter fun x => !q x).length = i) := Lib.hid (by have e := HDI.out.len; rw [hfl.out] at e; exact e)
        have hlb := HB.out.lt
        have i1 : (i : Int) ≤ (n : Int) := by omega
        have i2 : (i : Int) ≤ (c : Int) := by omega
        have i0 : (0 : Int) ≤ (i : Int) := by omega
        have i3 : ¬ i = c := by omega
        clear hS hvl hlast
        go_wp2
        go_ret
        exact ⟨_, by rw [HE.out]; rfl, by rw [hfl.out] at HG; exact HG.out, HPut.out, by rw [putC_size]; exact HDI.out.size, HL.out⟩
end Go.Proofs.YtodnlcbnbkkanaaGreatDoor
end
section
namespace Go.Proofs.YtodnlcbnbkkanaaGreatDoor
open Go Go.RowKit

/-- Productions in a block made since there were N; their symbols lie as in w0. -/
structure OwnP (N : Nat) (w : World) (a : Option Addr) (c : Nat) (l : List ProdM) : Prop where
  row : (a = none ∧ l = []) ∨ ∃ B cs, a = some ⟨B, 0, none⟩ ∧ N ≤ B ∧ Blk w B 65 cs ∧ PRow cs 0 l 0
  cap : l.length ≤ c
theorem OwnP.rowProd {N : Nat} {w : World} {a : Option Addr} {c : Nat} {l : List ProdM} (h : OwnP N w a c l) (hin : ∀ x, x ∈ l → ProdIn w x) : RowProd w a l := by
  rcases h.row with ⟨_, rfl⟩ | ⟨B, cs, rfl, _, hb, hr⟩
  · exact RowOf.nil _
  · intro i x hx
    exact ⟨B, 0, rfl, hb.lt, by have := (hr i x (Nat.zero_le _) hx).cells hb; exact this, hin x (List.mem_of_getElem? hx)⟩
theorem OwnP.below {N M : Nat} {w W : World} {a : Option Addr} {c : Nat} {l : List ProdM} (h : OwnP N w a c l) (hB : Below M w W) (hM : w.heap.size ≤ M) : OwnP N W a c l := by
  refine ⟨?_, h.cap⟩
  rcases h.row with h | ⟨B, cs, h1, h2, hb, hr⟩
  · exact .inl h
  · exact .inr ⟨B, cs, h1, h2, hb.below hB (Nat.lt_of_lt_of_le hb.lt hM), hr⟩

set_option maxRecDepth 100000 in
set_option maxHeartbeats 2000000 in
/-- slices.Clone of productions. -/
theorem clone_any (a : Option Addr) (c : Nat) (l : List ProdM) (w : World) (hl : RowProd w a l) (hn : l.length ≤ 1000000) :
    Calls Tryz.prog 98 #[.slice a l.length c] w fun e w' => ∃ a' c', e = .returned (.slice a' l.length c') ∧ OwnP w.heap.size w' a' c' l ∧ Below w.heap.size w w' := by
  cases a with
  | none =>
    have e0 : l = [] := by
      cases l with
      | nil => rfl
      | cons y r => obtain ⟨_, _, e, _⟩ := hl 0 y rfl; cases e
    subst e0
    have he : ∀ w, (binOp BinOp.eql 23 (.slice none 0 c) (.slice none 0 0)).run Tryz.prog w = .ok (.bool true) w := fun _ => by first | kernel_rfl | rfl
    show Calls Tryz.prog 98 #[.slice none 0 c] w _
    go_enter Tryz.func98, Tryz.ntmps98
    go_wp2
    go_ret
    exact ⟨none, 0, rfl, ⟨.inl ⟨rfl, rfl⟩, Nat.le_refl _⟩, Below.refl _ _⟩
  | some p =>
    obtain ⟨i65, ti65, tz65, ts65, tb65⟩ := info_parts Tryz.info65
    have HL := Lib.hid hl
    have HB := Lib.hid (Below.refl w.heap.size w)
    clear hl
    generalize hm : l.length = m at *
    have he : ∀ w, (binOp BinOp.eql 23 (.slice (some p) m c) (.slice none 0 0)).run Tryz.prog w = .ok (.bool false) w := fun _ => by first | kernel_rfl | rfl
    have HM := Lib.hid hm
    clear hm
    have hown : (w.alloc (.cells #[] 65)).ownsRow w.heap.size 65 7 (.slice (some ⟨w.heap.size, 0, none⟩) 0 0) 0 [] := ⟨rfl, .inr ⟨w.heap.size, 0, #[], rfl, Nat.le_refl _, Blk.new w 65 #[], Nat.le_refl _, Nat.zero_le _, rfl, rfl⟩⟩
    have HOw := Lib.hid hown
    clear hown
    have hb1 : Below w.heap.size w (w.alloc (.cells #[] 65)) := (Below.refl _ _).alloc (Nat.le_refl _) _
    have HB1 := Lib.hid hb1
    clear hb1
    go_enter Tryz.func98, Tryz.ntmps98
    go_wp2_with (at_builtin; (refine wpList_append_row rfl (.tmp 5) (.tmp 6) 23 rfl w.heap.size 65 i65 _ 7 72 Tryz.underlying23 ti65 tz65 ts65 tb65 rfl (by omega) _ 0 [] rfl HOw.out (some p) c l (by rw [HM.out]; rfl) (HL.out.below HB1.out) (fun _ => rfl) (fun x u hu => ?_) (fun h => by cases h) ?_ ?_ (by simp) (fun v' w' h1 h2 => ?_)))
    · simp [prodC] at hu
      rcases hu with rfl | rfl | rfl | rfl | rfl | rfl | rfl <;> rfl
    · rw [HM.out]; unfold maxLen; omega
    · rw [HM.out]; omega
    · rw [Nat.zero_add, List.nil_append] at h1
      have hB : Below w.heap.size w w' := own_fin HOw.out HB1.out (by simp) h2
      obtain ⟨a', c', rfl, _, _⟩ := own_slice h1
      have HO := Lib.hid h1
      have HBw := Lib.hid hB
      clear h1 h2 hB
      go_wp2
      go_ret
      refine ⟨a', c', by rw [HM.out]; rfl, ?_, HBw.out⟩
      have h1 := HO.out
      refine ⟨?_, ?_⟩
      · rcases h1.2 with ⟨h, h0⟩ | ⟨g, cap, cur, h, hg, hk, hcap, _, hs, ht⟩
        · simp only [Value.slice.injEq] at h
          exact .inl ⟨h.1, List.length_eq_zero_iff.1 h0⟩
        · cases h
          refine .inr ⟨g, cur, rfl, hg, hk, fun k x _ hx j v hj => ?_⟩
          have hj7 : j < 7 := by have := (Array.getElem?_eq_some_iff.1 hj).1; exact this
          have hkl := (List.getElem?_eq_some_iff.1 hx).1
          have e := cellsL_at (cs := prodC) (k := 7) (fun _ => rfl) l k x hx j hj7
          rw [← ht, List.getElem?_take_of_lt (by omega), Array.getElem?_toList] at e
          rw [Nat.zero_add, e]; exact hj
      · rcases h1.2 with ⟨h, h0⟩ | ⟨g, cap, cur, h, hg, hk, hcap, _, hs, ht⟩
        · omega
        · cases h; exact hcap

theorem below_grown {N : Nat} {w W W' : World} {B : Nat} (h : Below N w W) (hg : W.grownBy W' (some B)) (hN : N ≤ w.heap.size) (hB : N ≤ B) : Below N w W' :=
  h.grown hg (Nat.le_trans hN h.size) fun j e => by cases e; exact hB

set_option maxRecDepth 100000 in
set_option maxHeartbeats 2000000 in
/-- slices.DeleteFunc of productions of one's own, by a closure that says q. -/
theorem delete_any (K : Nat) (lb : Array Value) (eg : ∀ args w, (callFunc K args).run Tryz.prog w = .ok (.enter K args) w) (a : Option Addr) (c : Nat) (l : List ProdM) (q : ProdM → Bool) (N : Nat) (w : World) (hN : N ≤ w.heap.size)
    (H : ∀ x, x ∈ l → ∀ W, Below N w W → Calls Tryz.prog K (#[prodV x] ++ lb) W fun e w' => e = .returned (.bool (q x)) ∧ Below W.heap.size W w') (hn : l.length ≤ 1048576) (ho : OwnP N w a c l) :
    Calls Tryz.prog 97 #[.slice a l.length c, .func (.func K) #[] lb] w fun e w' => e = .returned (.slice a (l.filter fun x => !q x).length c) ∧ OwnP N w' a c (l.filter fun x => !q x) ∧ Below N w w' := by
  rcases ho.row with ⟨rfl, rfl⟩ | ⟨B, cs, rfl, hB, hb, hr⟩
  · show Calls Tryz.prog 97 #[.slice none 0 c, .func (.func K) #[] lb] w _
    have hI : Calls Tryz.prog 133 #[.slice none 0 c, .func (.func K) #[] lb] w fun e w' => e = .returned (.int .i64 (-1)) ∧ w' = w := by
      clear H ho hn hN
      go_enter Tryz.func133, Tryz.ntmps133
      go_wp2
      go_loop [8] (fun i => i = .int .i64 0) (fun _ => 0)
      case atStart => rfl
      case round =>
        subst hrel
        go_wp2
        go_ret
        exact ⟨rfl, rfl⟩
    have HI := Lib.hid hI
    have HO : Hid (OwnP N w none c []) := Lib.hid ho
    clear H ho hI hn hN
    go_enter Tryz.func97, Tryz.ntmps97
    go_wp2_with fail
    refine HI.out.mono ?_
    rintro e w1 ⟨rfl, rfl⟩
    go_wp2
    go_ret
    exact ⟨rfl, HO.out, Below.refl _ _⟩
  · have D : DelBy (σ := Unit) K lb B 0 l q (fun s _ => s) (fun _ W => Below N w W) := ⟨fun _ W p hp hW => (H p hp W hW).mono fun e w' h => ⟨h.1, hW.trans (h.2.mono (Nat.le_trans hN hW.size)), fun b cs hb => hb.below h.2 hb.lt⟩, fun _ W W' hW hg => below_grown hW hg hN hB⟩
    refine (deleteSt_any K lb eg B 0 c l q _ _ D hn ho.cap cs w hb hr () (Below.refl _ _)).mono ?_
    rintro e w' ⟨cs', h1, h2, h3, h4, h5⟩
    exact ⟨h1, ⟨.inr ⟨B, cs', rfl, hB, h3, h5⟩, Nat.le_trans (List.length_filter_le _ _) ho.cap⟩, h2⟩

/-- The productions that make trees. -/
def mkL (g : GramM) : List ProdM := g.prods.filter fun x => !(x.role == 11)
theorem mkL_mem {g : GramM} {x : ProdM} : x ∈ mkL g ↔ x ∈ g.prods ∧ treeP x := by
  unfold mkL
  rw [List.mem_filter]
  simp
theorem mkL_len (g : GramM) : (mkL g).length ≤ g.prods.length := List.length_filter_le _ _

set_option maxRecDepth 100000 in
set_option maxHeartbeats 2000000 in
/-- making. -/
theorem making_any (g : GramM) (hm : MayB g) (w : World) (hg : GIn w g) :
    Calls Tryz.prog 68 #[gramV g] w fun e w' => ∃ a c, e = .returned (.slice a (mkL g).length c) ∧ OwnP w.heap.size w' a c (mkL g) ∧ Below w.heap.size w w' := by
  have hB1 : Below w.heap.size w (w.alloc (.cells (gramC g) 27)) := (Below.refl _ _).alloc (Nat.le_refl _) _
  have HC := Lib.hid (clone_any g.pa g.pc g.prods _ (hg.prods.below hB1) (Nat.le_trans hm.prods (by omega)))
  have HB := Lib.hid hB1
  have HN : Hid (g.prods.length ≤ 1048576) := Lib.hid (Nat.le_trans hm.prods (by omega))
  obtain ⟨n, hn⟩ : ∃ n, n = g.prods.length := ⟨_, rfl⟩
  rw [← hn] at HC
  have Hn := Lib.hid hn
  unfold gramV gramC at *
  rw [← hn] at HC HB ⊢
  clear hB1 hg hm hn
  go_enter Tryz.func68, Tryz.ntmps68
  go_wp2_with fail
  refine HC.out.mono ?_
  rintro e w3 ⟨a', c', rfl, hO, hB3⟩
  have hD := delete_any 99 #[] (fun _ _ => by kernel_rfl) a' c' g.prods (fun x => x.role == 11) w.heap.size w3 (Nat.le_trans HB.out.size hB3.size) (fun x _ W _ => making1_any x W) HN.out ⟨by
    rcases hO.row with h | ⟨B, cs, h1, h2, h3⟩
    · exact .inl h
    · exact .inr ⟨B, cs, h1, Nat.le_trans HB.out.size h2, h3⟩, hO.cap⟩
  rw [← Hn.out] at hD
  have HD := Lib.hid hD
  have HB3 := Lib.hid (HB.out.trans (hB3.mono HB.out.size))
  clear hD hO hB3
  go_wp2_with fail
  refine HD.out.mono ?_
  rintro e w4 ⟨rfl, hO4, hB4⟩
  have HO4 := Lib.hid hO4
  have HB4 := Lib.hid (HB3.out.trans hB4)
  clear hO4 hB4
  go_wp2
  go_ret
  exact ⟨a', c', rfl, HO4.out, HB4.out⟩
end Go.Proofs.YtodnlcbnbkkanaaGreatDoor
end
section
namespace Go.Proofs.YtodnlcbnbkkanaaGreatDoor
open Go Go.RowKit

theorem fields60 : (Tryz.prog.fieldsOf 60).toList.map (fun f => (f.name, f.type, f.offset)) = [("Kind", 58, 0), ("Set", 47, 1), ("Sort", 3, 5)] := by kernel_rfl
theorem fields85' : (Tryz.prog.fieldsOf 85).toList.map (fun f => (f.name, f.type, f.offset)) = [("Parent", 3, 0), ("At", 3, 1), ("Child", 3, 2)] := by kernel_rfl
theorem fields87 : (Tryz.prog.fieldsOf 87).toList.map (fun f => (f.name, f.type, f.offset)) = [("Sort", 3, 0), ("Not", 47, 1)] := by kernel_rfl

theorem eqf_cons (d : Nat) (xs ys : Array Value) (f : Field) (fs : List Field) (s : String) (t o : Nat) (h : (f.name, f.type, f.offset) = (s, t, o)) (hs : s ≠ "_") (a b : Value) (r : Bool) (w : World)
    (ha : (part t xs o).run Tryz.prog w = .ok a w) (hb : (part t ys o).run Tryz.prog w = .ok b w) (hr : (Op.equalIn d t a b).run Tryz.prog w = .ok r w) :
    (Op.eqFields d xs ys (f :: fs)).run Tryz.prog w = if r then (Op.eqFields d xs ys fs).run Tryz.prog w else .ok false w := by
  obtain ⟨rfl, rfl, rfl⟩ : f.name = s ∧ f.type = t ∧ f.offset = o := by simpa using h
  simp only [Op.eqFields, if_pos hs, Sem.run_bind, ha, hb, hr, Result.andThen_ok]
  cases r <;> simp
theorem split_map {α β : Type} {g : α → β} {l : List α} {b : β} {r : List β} (h : l.map g = b :: r) : ∃ x s, l = x :: s ∧ g x = b ∧ s.map g = r := by
  cases l with
  | nil => simp at h
  | cons x s => exact ⟨x, s, rfl, by simpa using h⟩

def symEq (x y : SymM) : Bool := x.kind == y.kind && (x.set == y.set && x.sort == y.sort)
def folEq (x y : FolM) : Bool := x.sort == y.sort && x.not == y.not

theorem eq_set' (n : Nat) (s t : BS) (w : World) : (Op.equalIn (n + 2) 47 (.agg #[.int .u64 (wdI s 0), .int .u64 (wdI s 1), .int .u64 (wdI s 2), .int .u64 (wdI s 3)]) (.agg #[.int .u64 (wdI t 0), .int .u64 (wdI t 1), .int .u64 (wdI t 2), .int .u64 (wdI t 3)])).run Tryz.prog w = .ok (s == t) w := by
  rw [← vset_beq]; exact eq_words n _ _ _ _ _ _ _ _ w

theorem eq_syms (n : Nat) (x y : SymM) (w : World) : (Op.equalIn (n + 4) 60 (symV x) (symV y)).run Tryz.prog w = .ok (symEq x y) w := by
  have h1 : Tryz.prog.underlying 60 = some (.struct (Tryz.prog.fieldsOf 60)) := by kernel_rfl
  have h2 : Tryz.prog.stoodInHeld 60 = false := by kernel_rfl
  have u63 : Tryz.prog.underlying 58 = some (.int .i64) := by kernel_rfl
  have u3 : Tryz.prog.underlying 3 = some (.int .i64) := by kernel_rfl
  have hf := fields60
  unfold symV
  rw [run_equalIn_struct w (n + 3) 60 _ _ h1 h2]
  revert hf
  generalize (Tryz.prog.fieldsOf 60).toList = fs
  intro hf
  obtain ⟨f0, fs, rfl, g0, hf⟩ := split_map hf
  obtain ⟨f1, fs, rfl, g1, hf⟩ := split_map hf
  obtain ⟨f2, fs, rfl, g2, hf⟩ := split_map hf
  obtain rfl : fs = [] := by simpa using hf
  obtain ⟨xk, xs, xn⟩ := x
  obtain ⟨yk, ys, yn⟩ := y
  unfold symC symEq
  dsimp only
  rw [eqf_cons (n + 3) _ _ f0 _ _ _ _ g0 (by decide) (.int .i64 xk) (.int .i64 yk) _ w (by kernel_rfl) (by kernel_rfl) (run_equalIn_int w (n + 2) 58 .i64 .i64 xk yk u63),
    eqf_cons (n + 3) _ _ f1 _ _ _ _ g1 (by decide) _ _ _ w (by kernel_rfl) (by kernel_rfl) (eq_set' (n + 1) xs ys w),
    eqf_cons (n + 3) _ _ f2 _ _ _ _ g2 (by decide) (.int .i64 xn) (.int .i64 yn) _ w (by kernel_rfl) (by kernel_rfl) (run_equalIn_int w (n + 2) 3 .i64 .i64 xn yn u3)]
  have e4 : (Op.eqFields (n + 3) (#[.int .i64 xk, .int .u64 (wdI xs 0), .int .u64 (wdI xs 1), .int .u64 (wdI xs 2), .int .u64 (wdI xs 3), .int .i64 xn] : Array Value) (#[.int .i64 yk, .int .u64 (wdI ys 0), .int .u64 (wdI ys 1), .int .u64 (wdI ys 2), .int .u64 (wdI ys 3), .int .i64 yn] : Array Value) []).run Tryz.prog w = .ok true w := by
    simp [Op.eqFields]
  rw [e4]
  cases xk == yk <;> cases xs == ys <;> cases xn == yn <;> rfl

theorem eq_fors (n : Nat) (x y : ForM) (w : World) : (Op.equalIn (n + 4) 85 (forV x) (forV y)).run Tryz.prog w = .ok (x.parent == y.parent && (x.at_ == y.at_ && x.child == y.child)) w := by
  have h1 : Tryz.prog.underlying 85 = some (.struct (Tryz.prog.fieldsOf 85)) := by kernel_rfl
  have h2 : Tryz.prog.stoodInHeld 85 = false := by kernel_rfl
  have u3 : Tryz.prog.underlying 3 = some (.int .i64) := by kernel_rfl
  have hf := fields85'
  unfold forV
  rw [run_equalIn_struct w (n + 3) 85 _ _ h1 h2]
  revert hf
  generalize (Tryz.prog.fieldsOf 85).toList = fs
  intro hf
  obtain ⟨f0, fs, rfl, g0, hf⟩ := split_map hf
  obtain ⟨f1, fs, rfl, g1, hf⟩ := split_map hf
  obtain ⟨f2, fs, rfl, g2, hf⟩ := split_map hf
  obtain rfl : fs = [] := by simpa using hf
  obtain ⟨xk, xs, xn⟩ := x
  obtain ⟨yk, ys, yn⟩ := y
  unfold forC
  dsimp only
  rw [eqf_cons (n + 3) _ _ f0 _ _ _ _ g0 (by decide) (.int .i64 xk) (.int .i64 yk) _ w (by kernel_rfl) (by kernel_rfl) (run_equalIn_int w (n + 2) 3 .i64 .i64 xk yk u3),
    eqf_cons (n + 3) _ _ f1 _ _ _ _ g1 (by decide) (.int .i64 xs) (.int .i64 ys) _ w (by kernel_rfl) (by kernel_rfl) (run_equalIn_int w (n + 2) 3 .i64 .i64 xs ys u3),
    eqf_cons (n + 3) _ _ f2 _ _ _ _ g2 (by decide) (.int .i64 xn) (.int .i64 yn) _ w (by kernel_rfl) (by kernel_rfl) (run_equalIn_int w (n + 2) 3 .i64 .i64 xn yn u3)]
  have e4 : (Op.eqFields (n + 3) (#[.int .i64 xk, .int .i64 xs, .int .i64 xn] : Array Value) (#[.int .i64 yk, .int .i64 ys, .int .i64 yn] : Array Value) []).run Tryz.prog w = .ok true w := by
    simp [Op.eqFields]
  rw [e4]
  cases xk == yk <;> cases xs == ys <;> cases xn == yn <;> rfl

theorem eq_fols (n : Nat) (x y : FolM) (w : World) : (Op.equalIn (n + 4) 87 (folV x) (folV y)).run Tryz.prog w = .ok (folEq x y) w := by
  have h1 : Tryz.prog.underlying 87 = some (.struct (Tryz.prog.fieldsOf 87)) := by kernel_rfl
  have h2 : Tryz.prog.stoodInHeld 87 = false := by kernel_rfl
  have u3 : Tryz.prog.underlying 3 = some (.int .i64) := by kernel_rfl
  have hf := fields87
  unfold folV
  rw [run_equalIn_struct w (n + 3) 87 _ _ h1 h2]
  revert hf
  generalize (Tryz.prog.fieldsOf 87).toList = fs
  intro hf
  obtain ⟨f0, fs, rfl, g0, hf⟩ := split_map hf
  obtain ⟨f1, fs, rfl, g1, hf⟩ := split_map hf
  obtain rfl : fs = [] := by simpa using hf
  obtain ⟨xk, xs⟩ := x
  obtain ⟨yk, ys⟩ := y
  unfold folC folEq
  dsimp only
  rw [eqf_cons (n + 3) _ _ f0 _ _ _ _ g0 (by decide) (.int .i64 xk) (.int .i64 yk) _ w (by kernel_rfl) (by kernel_rfl) (run_equalIn_int w (n + 2) 3 .i64 .i64 xk yk u3),
    eqf_cons (n + 3) _ _ f1 _ _ _ _ g1 (by decide) _ _ _ w (by kernel_rfl) (by kernel_rfl) (eq_set' (n + 1) xs ys w)]
  have e4 : (Op.eqFields (n + 3) (#[.int .i64 xk, .int .u64 (wdI xs 0), .int .u64 (wdI xs 1), .int .u64 (wdI xs 2), .int .u64 (wdI xs 3)] : Array Value) (#[.int .i64 yk, .int .u64 (wdI ys 0), .int .u64 (wdI ys 1), .int .u64 (wdI ys 2), .int .u64 (wdI ys 3)] : Array Value) []).run Tryz.prog w = .ok true w := by
    simp [Op.eqFields]
  rw [e4]
  cases xk == yk <;> cases xs == ys <;> rfl
end Go.Proofs.YtodnlcbnbkkanaaGreatDoor
end
section
namespace Go.Proofs.YtodnlcbnbkkanaaGreatDoor
open Go Go.RowKit

/-- Are two lists the same, thing by thing? -/
def eqL {α : Type} (q : α → α → Bool) : List α → List α → Bool
  | [], [] => true
  | x :: l, y :: r => q x y && eqL q l r
  | _, _ => false
theorem eqL_len {α : Type} {q : α → α → Bool} : ∀ {l r : List α}, l.length ≠ r.length → eqL q l r = false := by
  intro l
  induction l with
  | nil => intro r h; cases r with | nil => simp at h | cons y r => rfl
  | cons x l ih =>
    intro r h
    cases r with
    | nil => rfl
    | cons y r => rw [eqL, ih (by simpa using h), Bool.and_false]
theorem eqL_no {α : Type} {q : α → α → Bool} : ∀ {l r : List α} (i : Nat) (x y : α), l[i]? = some x → r[i]? = some y → q x y = false → eqL q l r = false := by
  intro l
  induction l with
  | nil => intro r i x y h; simp at h
  | cons x' l ih =>
    intro r i x y hx hy hq
    cases r with
    | nil => rfl
    | cons y' r =>
      cases i with
      | zero => simp at hx hy; subst hx hy; rw [eqL, hq, Bool.false_and]
      | succ i => rw [eqL, ih i x y (by simpa using hx) (by simpa using hy) hq, Bool.and_false]
theorem eqL_yes {α : Type} {q : α → α → Bool} : ∀ {l r : List α}, l.length = r.length → (∀ (i : Nat) (x y : α), l[i]? = some x → r[i]? = some y → q x y = true) → eqL q l r = true := by
  intro l
  induction l with
  | nil => intro r h _; cases r with | nil => rfl | cons y r => simp at h
  | cons x l ih =>
    intro r h hq
    cases r with
    | nil => simp at h
    | cons y r => rw [eqL, hq 0 x y rfl rfl, ih (by simpa using h) (fun i a b ha hb => hq (i + 1) a b (by simpa using ha) (by simpa using hb)), Bool.true_and]

theorem toList_data (s : ByteArray) : s.toList = s.data.toList := ByteArray.toList_eq s
end Go.Proofs.YtodnlcbnbkkanaaGreatDoor
end
section
namespace Go.Proofs.YtodnlcbnbkkanaaGreatDoor
open Go Go.RowKit
end Go.Proofs.YtodnlcbnbkkanaaGreatDoor
end
section
namespace Go.Proofs.YtodnlcbnbkkanaaGreatDoor
open Go Go.RowKit

/-- Are two productions the same? -/
def prodEq (p q : ProdM) : Bool := p.left == q.left && (eqL symEq p.right q.right && (p.cons.toList == q.cons.toList && (p.role == q.role && (p.prefer == q.prefer && (p.avoid == q.avoid && p.frm == q.frm)))))

theorem cells7g {W : World} {B t : Nat} {a b c d e f g : Value} (h : Blk W B t #[a, b, c, d, e, f, g]) : W.cell? ⟨B, 0, none⟩ = some a ∧ W.cell? ⟨B, 1, none⟩ = some b ∧ W.cell? ⟨B, 2, none⟩ = some c ∧ W.cell? ⟨B, 3, none⟩ = some d ∧ W.cell? ⟨B, 4, none⟩ = some e ∧ W.cell? ⟨B, 5, none⟩ = some f ∧ W.cell? ⟨B, 6, none⟩ = some g :=
  ⟨h.cell 0, h.cell 1, h.cell 2, h.cell 3, h.cell 4, h.cell 5, h.cell 6⟩
theorem keep2 {w3 : World} (w : World) (x y : Array Value) {t u : Nat} (hB : Below ((w.alloc (.cells x t)).alloc (.cells y u)).heap.size ((w.alloc (.cells x t)).alloc (.cells y u)) w3) :
    Blk w3 w.heap.size t x ∧ Blk w3 (w.heap.size + 1) u y := by
  have h0 : Blk ((w.alloc (.cells x t)).alloc (.cells y u)) w.heap.size t x := (Blk.new w t x).alloc _
  have h1 : Blk ((w.alloc (.cells x t)).alloc (.cells y u)) (w.heap.size + 1) u y := by
    have h := Blk.new (w.alloc (.cells x t)) u y
    rw [World.size_alloc] at h
    exact h
  exact ⟨h0.below hB h0.lt, h1.below hB h1.lt⟩
end Go.Proofs.YtodnlcbnbkkanaaGreatDoor
end
section
namespace Go.Proofs.YtodnlcbnbkkanaaGreatDoor
open Go Go.RowKit
end Go.Proofs.YtodnlcbnbkkanaaGreatDoor
end
section
namespace Go.Proofs.YtodnlcbnbkkanaaGreatDoor
open Go Go.RowKit

/-- Are two grammars the same, part by part? -/
def sameG (a b : GramM) : Bool := eqL strEq a.sorts b.sorts && (eqL prodEq a.prods b.prods && (a.start == b.start && (eqL forEq a.forbid b.forbid && eqL folEq a.follow b.follow)))

theorem cells5' {W : World} {B t : Nat} {a b c d e : Value} (h : Blk W B t #[a, b, c, d, e]) : W.cell? ⟨B, 0, none⟩ = some a ∧ W.cell? ⟨B, 1, none⟩ = some b ∧ W.cell? ⟨B, 2, none⟩ = some c ∧ W.cell? ⟨B, 3, none⟩ = some d ∧ W.cell? ⟨B, 4, none⟩ = some e :=
  ⟨h.cell 0, h.cell 1, h.cell 2, h.cell 3, h.cell 4⟩
end Go.Proofs.YtodnlcbnbkkanaaGreatDoor
end
section
namespace Go.Proofs.YtodnlcbnbkkanaaGreatDoor
open Go Go.RowKit

set_option maxRecDepth 100000 in
set_option maxHeartbeats 1000000 in
theorem notTree_any (x : TreeM) (p : Bool) (K : Nat) (lb : Array Value) (eg : ∀ args w, (callFunc K args).run Tryz.prog w = .ok (.enter K args) w) (B : Nat) (w : World) (hb : w.cell? ⟨B, 0, none⟩ = some (.func (.func K) #[] lb))
    (H : ∀ W, Below w.heap.size w W → Calls Tryz.prog K (#[treeV x] ++ lb) W fun e w' => e = .returned (.bool p) ∧ Below W.heap.size W w') :
    Calls Tryz.prog 120 #[treeV x, .pointer (some ⟨B, 0, none⟩)] w fun e w' => e = .returned (.bool (!p)) ∧ Below w.heap.size w w' := by
  have hB := lt_of_cell hb
  have HH := Lib.hid H
  clear H
  obtain ⟨xp, xb, xa, xc, xk⟩ := x
  simp only [treeV, treeC] at *
  go_enter Tryz.func120, Tryz.ntmps120
  go_wp2_with (refine (HH.out _ ?_).mono ?_)
  · exact ((Below.refl _ _).alloc (Nat.le_refl _) _)
  rintro e w' ⟨rfl, hB2⟩
  go_wp2
  go_ret
  exact ⟨rfl, ((Below.refl _ _).alloc (Nat.le_refl _) _).trans (hB2.mono (by simp))⟩

set_option maxRecDepth 100000 in
set_option maxHeartbeats 4000000 in
theorem indexTree_any (a : Option Addr) (c : Nat) (l : List TreeM) (q : TreeM → Bool) (K : Nat) (lb : Array Value) (eg : ∀ args w, (callFunc K args).run Tryz.prog w = .ok (.enter K args) w) (w : World)
    (hl : RowTree w a l) (hn : l.length ≤ 1048576) (H : Says treeV q l K lb w) :
    Calls Tryz.prog 144 #[.slice a l.length c, .func (.func K) #[] lb] w fun e w' => e = .returned (.int .i64 (firstI q l)) ∧ Below w.heap.size w w' := by
  have HL := Lib.hid hl
  have HH := Lib.hid H
  clear hl H
  obtain ⟨n, hln⟩ : ∃ n, n = l.length := ⟨_, rfl⟩
  rw [← hln] at hn ⊢
  have HN := Lib.hid hln
  clear hln
  go_enter Tryz.func144, Tryz.ntmps144
  go_wp2
  go_loopw [8] (fun i wr => ∃ (m : Nat), i = .int .i64 m ∧ m ≤ n ∧ Hid (∀ (j : Nat) y, j < m → l[j]? = some y → q y = false) ∧ Hid (Below w.heap.size w wr))
    (fun i _ => n - (intOf i).toNat)
  case atStart => exact ⟨0, rfl, Nat.zero_le _, Lib.hid (fun j y hj => by omega), Below.refl _ _⟩
  case round =>
    obtain ⟨m, rfl, hm, hS, hB⟩ := hrel
    by_cases hlt : m < n
    · have HX : Hid (∃ x, l[m]? = some x) := Lib.hid ⟨_, List.getElem?_eq_getElem (by rw [← HN.out]; exact hlt)⟩
      obtain ⟨⟨xp, xb, xa, xc, xk⟩, hx⟩ := HX.out
      have HX := Lib.hid hx
      clear hx
      obtain ⟨b, off, rfl, hbw, hc, _⟩ := HL.out m (TreeM.node xp xb xa xc xk) HX.out
      have hc := hc.below hB.out hbw
      have hbr := Nat.lt_of_lt_of_le hbw hB.out.size
      obtain ⟨c0, c1, c2⟩ := Tree_at hc
      clear hc
      have HC := Lib.hid (HH.out (TreeM.node xp xb xa xc xk) (List.mem_of_getElem? HX.out) wr hB.out)
      have HQ : Hid (∀ r, q (TreeM.node xp xb xa xc xk) = r → r = false → ∀ (j : Nat) y, j < m + 1 → l[j]? = some y → q y = false) := Lib.hid (fun r hr hf j y hj hy => by
        by_cases e : j = m
        · subst e
          rw [HX.out] at hy
          cases hy
          rw [hr, hf]
        · exact hS.out j y (by omega) hy)
      have HT : Hid (q (TreeM.node xp xb xa xc xk) = true → firstI q l = m) := Lib.hid (fun h => firstI_hit q l m (TreeM.node xp xb xa xc xk) HX.out h hS.out)
      generalize q (TreeM.node xp xb xa xc xk) = r at HC HQ HT
      clear HX hS HH HL
      simp only [treeV, treeC] at *
      have n1 : (m : Int) < (n : Int) := by omega
      cases r with
      | true =>
        have HT2 := Lib.hid (HT.out rfl)
        clear HQ HT
        go_wp2_with fail
        refine HC.out.mono ?_
        rintro e w3 ⟨rfl, hB3⟩
        have HB3 := Lib.hid (hB.out.trans (hB3.mono hB.out.size))
        clear hB3
        go_wp2
        go_ret
        exact ⟨by rw [HT2.out]; rfl, HB3.out⟩
      | false =>
        have HQ2 := Lib.hid (HQ.out false rfl rfl)
        clear HT HQ
        go_wp2_with fail
        refine HC.out.mono ?_
        rintro e w3 ⟨rfl, hB3⟩
        have HB3 := Lib.hid (hB.out.trans (hB3.mono hB.out.size))
        clear hB3
        go_wp2
        go_roundw
        case rel => exact ⟨m + 1, by go_num, by omega, HQ2, HB3⟩
        case measure => simp [intOf]; omega
    · obtain rfl : m = n := by omega
      have HT := Lib.hid (firstI_none q l (fun j y hy => hS.out j y (by have := (List.getElem?_eq_some_iff.1 hy).1; have := HN.out; omega) hy))
      clear hS
      go_wp2
      go_ret
      exact ⟨by rw [HT.out]; rfl, hB.out⟩

set_option maxRecDepth 100000 in
set_option maxHeartbeats 1000000 in
theorem containsTree_any (a : Option Addr) (c : Nat) (l : List TreeM) (q : TreeM → Bool) (K : Nat) (lb : Array Value) (eg : ∀ args w, (callFunc K args).run Tryz.prog w = .ok (.enter K args) w) (w : World)
    (hl : RowTree w a l) (hn : l.length ≤ 1048576) (H : Says treeV q l K lb w) :
    Calls Tryz.prog 119 #[.slice a l.length c, .func (.func K) #[] lb] w fun e w' => e = .returned (.bool (l.any q)) ∧ Below w.heap.size w w' := by
  have HC := Lib.hid (indexTree_any a c l q K lb eg w hl hn H)
  have HI := firstI_any q l
  obtain ⟨i, hi⟩ : ∃ i, i = firstI q l := ⟨_, rfl⟩
  rw [← hi] at HC HI
  clear hi hl H
  generalize l.any q = r at HI ⊢
  generalize l.length = n at *
  go_enter Tryz.func119, Tryz.ntmps119
  go_wp2_with fail
  refine HC.out.mono ?_
  rintro e w3 ⟨rfl, hB3⟩
  go_wp2
  go_ret
  exact ⟨rfl, hB3⟩

set_option maxRecDepth 100000 in
set_option maxHeartbeats 1000000 in
theorem allTree_any (a : Option Addr) (c : Nat) (l : List TreeM) (p : TreeM → Bool) (K : Nat) (lb : Array Value) (eg : ∀ args w, (callFunc K args).run Tryz.prog w = .ok (.enter K args) w) (w : World)
    (hl : RowTree w a l) (hn : l.length ≤ 1048576) (H : Says treeV p l K lb w) :
    Calls Tryz.prog 88 #[.slice a l.length c, .func (.func K) #[] lb] w fun e w' => e = .returned (.bool (l.all p)) ∧ Below w.heap.size w w' := by
  have hB1 : Below w.heap.size w (w.alloc (.cells #[.func (.func K) #[] lb] 136)) := (Below.refl _ _).alloc (Nat.le_refl _) _
  have HC := Lib.hid (containsTree_any a c l (fun x => !p x) 120 #[.pointer (some ⟨w.heap.size, 0, none⟩)] (fun _ _ => by kernel_rfl) (w.alloc (.cells #[.func (.func K) #[] lb] 136)) (RowTree.below hl hB1) hn (fun x hx W hW =>
    notTree_any x (p x) K lb eg _ W (by have hb := Blk.new w 136 #[.func (.func K) #[] lb]; exact (hb.below hW hb.lt).cell 0) (fun V hV => H x hx V (hB1.trans ((hW.trans (hV.mono hW.size)).mono (by simp))))))
  have HA := any_not p l
  have HB := Lib.hid hB1
  clear hl H hB1
  generalize l.any (fun x => !p x) = r at HC HA
  rw [← HA]
  clear HA
  generalize l.length = n at *
  go_enter Tryz.func88, Tryz.ntmps88
  go_wp2_with fail
  refine HC.out.mono ?_
  rintro e w3 ⟨rfl, hB3⟩
  go_wp2
  go_ret
  exact ⟨rfl, HB.out.trans (hB3.mono HB.out.size)⟩
end Go.Proofs.YtodnlcbnbkkanaaGreatDoor
end
section
namespace Go.Proofs.YtodnlcbnbkkanaaGreatDoor
open Go Go.RowKit

/-- Is a tree no deeper than that? -/
def nestB : Nat → TreeM → Bool
  | 0, _ => false
  | d + 1, .node _ _ _ _ kids => kids.all (nestB d)
/-- A tree whose lists are no longer than memory bears, so deep down. -/
def TFit : Nat → TreeM → Prop
  | 0, _ => True
  | d + 1, .node _ b _ _ kids => kids.length ≤ 1048576 ∧ (∃ n : Nat, b = n ∧ n < 256) ∧ ∀ k, k ∈ kids → TFit d k

set_option maxRecDepth 100000 in
set_option maxHeartbeats 2000000 in
theorem nested_any (d : Nat) (hd : d ≤ 1048576) : ∀ (t : TreeM) (w : World), TreeIn w t → TFit d t → Calls Tryz.prog 63 #[treeV t, .int .i64 d] w fun e w' => e = .returned (.bool (nestB d t)) ∧ Below w.heap.size w w' := by
  induction d with
  | zero =>
    intro t w _ _
    obtain ⟨p, b, ka, kc, kids⟩ := t
    have HB : Hid (Below w.heap.size w ((w.alloc (.cells #[.int .i64 p, .int .u8 b, .slice ka kids.length kc] 70)).alloc (.cells #[.int .i64 0] 3))) := Lib.hid (((Below.refl _ _).alloc (Nat.le_refl _) _).alloc (by simp) _)
    have HR : Hid (nestB 0 (.node p b ka kc kids) = false) := Lib.hid rfl
    unfold treeV treeC
    go_enter Tryz.func63, Tryz.ntmps63
    go_wp2
    go_ret
    exact ⟨by rw [HR.out]; try rfl, HB.out⟩
  | succ d ih =>
    intro t w ht hfit
    have HI := Lib.hid (ih (by omega))
    obtain ⟨p, b, ka, kc, kids⟩ := t
    rw [tree_in] at ht
    obtain ⟨hlen, _, hk⟩ := hfit
    have hB1 : Below w.heap.size w ((w.alloc (.cells #[.int .i64 p, .int .u8 b, .slice ka kids.length kc] 70)).alloc (.cells #[.int .i64 ((d + 1 : Nat) : Int)] 3)) := ((Below.refl _ _).alloc (Nat.le_refl _) _).alloc (by simp) _
    have hb := Blk.new (w.alloc (.cells #[.int .i64 p, .int .u8 b, .slice ka kids.length kc] 70)) 3 #[.int .i64 ((d + 1 : Nat) : Int)]
    rw [World.size_alloc] at hb
    have hd2 : ((d + 1 : Nat) : Int) - 1 = (d : Int) := by omega
    have Hd2 := Lib.hid hd2
    have hdr : (d : Int) ≤ 1048576 := by omega
    have hd0 : (0 : Int) < ((d + 1 : Nat) : Int) := by omega
    obtain ⟨n, hn⟩ : ∃ n : Int, n = ((d + 1 : Nat) : Int) := ⟨_, rfl⟩
    rw [← hn] at hB1 hb hd2 hd0 ⊢
    have hn2 : n ≤ 1048577 := by omega
    obtain ⟨W1, hW1⟩ : ∃ W1, W1 = (w.alloc (.cells #[.int .i64 p, .int .u8 b, .slice ka kids.length kc] 70)).alloc (.cells #[.int .i64 n] 3) := ⟨_, rfl⟩
    rw [← hW1] at hb hB1
    have HS : Hid (Says treeV (nestB d) kids 89 #[.pointer (some ⟨w.heap.size + 1, 0, none⟩)] W1) := Lib.hid (by
      intro x hx W hW
      have hxi : TreeIn W x := by
        obtain ⟨i, hi⟩ := List.mem_iff_getElem?.1 hx
        obtain ⟨_, _, _, _, _, h⟩ := ht i x hi
        exact TreeIn.below (hB1.trans (hW.mono hB1.size)) x h
      have hbW := hb.below hW hb.lt
      have HIx := Lib.hid (HI.out x _ (TreeIn.below ((Below.refl _ W).alloc (Nat.le_refl _) (.cells (treeC x) 70)) x hxi) (hk x hx))
      have HBx : Hid (Below W.heap.size W (W.alloc (.cells (treeC x) 70))) := Lib.hid ((Below.refl _ W).alloc (Nat.le_refl _) _)
      have c0 := hbW.cell 0
      simp only [List.getElem?_toArray, List.getElem?_cons_zero] at c0
      have lW := hbW.lt
      generalize nestB d x = r at *
      clear hxi hbW hx ht hk hlen HI hW hb hB1 hW1 Hd2
      obtain ⟨xp, xb, xa, xc, xk⟩ := x
      unfold treeV treeC at *
      go_enter Tryz.func89, Tryz.ntmps89
      go_wp2_with fail
      with_reducible refine HIx.out.mono ?_
      rintro e w3 ⟨rfl, hB3⟩
      have HF := Lib.hid (HBx.out.trans (hB3.mono HBx.out.size))
      clear hB3
      go_wp2
      go_ret
      exact ⟨by try rfl, HF.out⟩)
    have HA := Lib.hid (allTree_any ka kc kids (nestB d) 89 #[.pointer (some ⟨w.heap.size + 1, 0, none⟩)] (fun _ _ => by kernel_rfl) W1 (RowTree.below ht hB1) hlen HS.out)
    have HR : Hid (nestB (d + 1) (.node p b ka kc kids) = kids.all (nestB d)) := Lib.hid (by rw [nestB])
    have HB := Lib.hid hB1
    have HW := Lib.hid hW1
    have hmf : ∀ (fn : Fn) (first cap : Array Value) (w : World), (Instr.makeFunc fn first cap).run Tryz.prog w = .ok (.func fn first cap) w := fun _ _ _ _ => rfl
    clear hn ht hk hb hB1 hW1 hd2 HS HI Hd2
    generalize kids.all (nestB d) = r at *
    unfold treeV treeC
    go_enter Tryz.func63, Tryz.ntmps63
    go_wp2_with fail
    rw [← HW.out]
    with_reducible refine HA.out.mono ?_
    rintro e w3 ⟨rfl, hB3⟩
    have HF := Lib.hid (HB.out.trans (hB3.mono HB.out.size))
    clear hB3
    go_wp2
    go_ret
    exact ⟨by rw [HR.out]; try rfl, HF.out⟩
end Go.Proofs.YtodnlcbnbkkanaaGreatDoor
end
section
namespace Go.Proofs.YtodnlcbnbkkanaaGreatDoor
open Go Go.RowKit Go.Deep Go.ChangeShapes Go.WideShapes

theorem cellsOf4 : Tryz.prog.cellsOf 4 = 1 := by kernel_rfl
theorem cellsOf5 : Tryz.prog.cellsOf 5 = 1 := by kernel_rfl
theorem cellsOf9 : Tryz.prog.cellsOf 9 = 1 := by kernel_rfl
theorem cellsOf63 : Tryz.prog.cellsOf 63 = 1 := by kernel_rfl
theorem cellsOf58 : Tryz.prog.cellsOf 58 = 1 := by kernel_rfl
theorem cellsOf45 : Tryz.prog.cellsOf 45 = 1 := by kernel_rfl
theorem cellsOf47 : Tryz.prog.cellsOf 47 = 4 := by kernel_rfl
theorem cellsOf22 : Tryz.prog.cellsOf 22 = 1 := by kernel_rfl
theorem cellsOf23 : Tryz.prog.cellsOf 23 = 1 := by kernel_rfl
theorem cellsOf24 : Tryz.prog.cellsOf 24 = 1 := by kernel_rfl
theorem cellsOf25 : Tryz.prog.cellsOf 25 = 1 := by kernel_rfl
theorem cellsOf62 : Tryz.prog.cellsOf 62 = 1 := by kernel_rfl
theorem cellsOf68 : Tryz.prog.cellsOf 68 = 1 := by kernel_rfl
theorem cellsOf27 : Tryz.prog.cellsOf 27 = 5 := by kernel_rfl
theorem cellsOf65 : Tryz.prog.cellsOf 65 = 7 := by kernel_rfl
theorem cellsOf70 : Tryz.prog.cellsOf 70 = 3 := by kernel_rfl
theorem cellsOf60 : Tryz.prog.cellsOf 60 = 6 := by kernel_rfl
theorem cellsOf87 : Tryz.prog.cellsOf 87 = 5 := by kernel_rfl

theorem u64_rng {n : Int} (h : (Lit.int .u64 n).wf = true) : 0 ≤ n ∧ n < 18446744073709551616 := by
  have h0 : IntKind.u64.min = 0 := by decide
  have h1 : IntKind.u64.max = 18446744073709551615 := by decide
  simp [Lit.wf] at h
  omega
theorem u8_rng {n : Int} (h : (Lit.int .u8 n).wf = true) : 0 ≤ n ∧ n < 256 := by
  have h0 : IntKind.u8.min = 0 := by decide
  have h1 : IntKind.u8.max = 255 := by decide
  simp [Lit.wf] at h
  omega
theorem i64_rng {n : Int} (h : (Lit.int .i64 n).wf = true) : I64 n := by
  have h0 : IntKind.i64.min = -9223372036854775808 := by decide
  have h1 : IntKind.i64.max = 9223372036854775807 := by decide
  simp [Lit.wf] at h
  unfold I64
  omega
theorem mapM_at {α β : Type} (f : α → Option β) : ∀ (l : List α) (ys : List β), l.mapM f = some ys → ∀ (j : Nat) (x : α) (y : β), l[j]? = some x → ys[j]? = some y → f x = some y := by
  intro l
  induction l with
  | nil => intro ys h j x y hx; simp at hx
  | cons a l ih =>
    intro ys h j x y hx hy
    rw [List.mapM_cons] at h
    cases ha : f a with
    | none => rw [ha] at h; cases h
    | some b =>
      rw [ha] at h
      cases hl : l.mapM f with
      | none => rw [hl] at h; cases h
      | some bs =>
        rw [hl] at h
        cases h
        cases j with
        | zero => simp at hx hy; rw [← hx, ← hy]; exact ha
        | succ j => exact ih bs hl j x y (by simpa using hx) (by simpa using hy)

variable {H : Type} {enc : TypeId × Value → H} {w : World} {base : Nat} {spare : Nat → Bool} {held : Bool}

theorem cells_ix {a : Addr} {n : Nat} {cs : List Value} (h : w.cells? base a n = some cs) (j : Nat) (v : Value) (hj : j < n) (hv : cs[j]? = some v) : w.cell? (a.add j) = some v := by
  unfold World.cells? at h
  split at h
  · exact mapM_at _ _ _ h j j v (by simp [hj]) hv
  · cases h
theorem trod_fields {P : Program} {t : TypeId} {fs : Array Field} {fuel : Nat} {cs : List Value} {x : DataW H × List MemPlace} (ht : P.underlying t = some (.struct fs)) (h : DataW.trod enc P w base spare held fuel t cs = some x) :
    ∃ n, fuel = n + 1 ∧ cs.length = P.cellsOf t ∧ ∀ (i : Nat) (f : Field), fs.toList[i]? = some f → ∃ y, DataW.trod enc P w base spare held n f.type ((cs.drop f.offset).take (P.cellsOf f.type)) = some y := by
  obtain ⟨xs, n, hn, rfl, hl, hlen, hf⟩ := DataW.trod_struct ht h
  refine ⟨n, hn, hl, fun i f hi' => ?_⟩
  have hi : fs[i]? = some f := by rw [← Array.getElem?_toList]; exact hi'
  have hlt : i < xs.length := by rw [hlen]; exact (Array.getElem?_eq_some_iff.1 hi).1
  exact ⟨xs[i], (hf i f hi).trans (List.getElem?_eq_getElem hlt)⟩
theorem open_u64 {fuel : Nat} {v : Value} {x : DataW H × List MemPlace} (h : DataW.trod enc Tryz.prog w base spare held fuel 45 [v] = some x) : ∃ n : Int, v = .int .u64 n ∧ 0 ≤ n ∧ n < 18446744073709551616 := by
  obtain ⟨n, e, _, hw⟩ := DataW.trod_int Tryz.underlying45 h
  simp at e
  exact ⟨n, e, u64_rng hw⟩
theorem open_u8 {fuel : Nat} {v : Value} {x : DataW H × List MemPlace} (h : DataW.trod enc Tryz.prog w base spare held fuel 5 [v] = some x) : ∃ n : Int, v = .int .u8 n ∧ 0 ≤ n ∧ n < 256 := by
  obtain ⟨n, e, _, hw⟩ := DataW.trod_int Tryz.underlying5 h
  simp at e
  exact ⟨n, e, u8_rng hw⟩
theorem open_i64 {fuel t : Nat} (ht : Tryz.prog.underlying t = some (.int .i64)) {v : Value} {x : DataW H × List MemPlace} (h : DataW.trod enc Tryz.prog w base spare held fuel t [v] = some x) : ∃ n : Int, v = .int .i64 n ∧ I64 n := by
  obtain ⟨n, e, _, hw⟩ := DataW.trod_int ht h
  simp at e
  exact ⟨n, e, i64_rng hw⟩
theorem open_str {fuel : Nat} {v : Value} {x : DataW H × List MemPlace} (h : DataW.trod enc Tryz.prog w base spare held fuel 9 [v] = some x) : ∃ s : ByteArray, v = .string s ∧ s.size ≤ maxLen := by
  obtain ⟨s, e, _, hs⟩ := DataW.trod_string Tryz.underlying9 h
  simp at e
  exact ⟨s, e, hs⟩
theorem open_bl {fuel : Nat} {v : Value} {x : DataW H × List MemPlace} (h : DataW.trod enc Tryz.prog w base spare held fuel 4 [v] = some x) : ∃ s : Bool, v = .bool s := by
  obtain ⟨s, e, _⟩ := DataW.trod_bool Tryz.underlying4 h
  simp at e
  exact ⟨s, e⟩

set_option maxRecDepth 100000 in
/-- A set that reads as data. -/
theorem st_open {fuel : Nat} {cs : List Value} {x : DataW H × List MemPlace} (h : DataW.trod enc Tryz.prog w base spare held fuel 47 cs = some x) :
    ∃ s : BS, cs = [.int .u64 (wdI s 0), .int .u64 (wdI s 1), .int .u64 (wdI s 2), .int .u64 (wdI s 3)] := by
  obtain ⟨_, _, _, _, hl, _⟩ := DataW.trod_array Tryz.underlying47 h
  rw [cellsOf47] at hl
  match cs, hl with
  | [a, b, c, d], _ =>
    obtain ⟨_, _, _, _, n, _, h0, h1, h2, h3⟩ := trod_array4 Tryz.underlying47 cellsOf45 h
    obtain ⟨a, rfl, ra⟩ := open_u64 h0
    obtain ⟨b, rfl, rb⟩ := open_u64 h1
    obtain ⟨c, rfl, rc⟩ := open_u64 h2
    obtain ⟨d, rfl, rd⟩ := open_u64 h3
    obtain ⟨s, rfl, rfl, rfl, rfl⟩ := set_of_words a b c d ra rb rc rd
    exact ⟨s, rfl⟩

/-- A slice that reads as data, each of whose elements is a thing. -/
theorem row_open {α : Type} [Inhabited α] {T E k : Nat} {cs : α → Array Value} {G : α → Prop} {GW : World → α → Prop} (hT : Tryz.prog.underlying T = some (.slice E)) (hk : Tryz.prog.cellsOf E = k) (hk0 : 0 < k) (hcs : ∀ x, (cs x).size = k) {fuel : Nat} {a : Option Addr} {len cap : Nat} {x : DataW H × List MemPlace}
    (h : DataW.trod enc Tryz.prog w base spare held fuel T [.slice a len cap] = some x) (hG : ∀ y, G y → GW w y) (ho : ∀ (n : Nat) (c : List Value) (y : DataW H × List MemPlace), n < fuel → DataW.trod enc Tryz.prog w base spare held n E c = some y → ∃ z : α, c = (cs z).toList ∧ G z) :
    ∃ d : List α, d.length = len ∧ RowOf k cs GW w a d ∧ (∀ y ∈ d, G y) ∧ len ≤ cap ∧ cap ≤ maxLen ∧ (a = none → cap = 0) := by
  rcases DataW.trod_slice hT h with ⟨h0, _⟩ | ⟨a', len', cap', elems, rest, n, hn, hcs', _, hb, hl, hm, hlen, hel, _, _⟩
  · simp at h0
    obtain ⟨rfl, rfl, rfl⟩ := h0
    exact ⟨[], rfl, RowOf.nil _, fun x hx => by simp at hx, Nat.le_refl _, by unfold maxLen; omega, fun _ => rfl⟩
  · simp at hcs'
    obtain ⟨rfl, rfl, rfl⟩ := hcs'
    have hall : ∀ i, i < len → ∃ y : α, (∀ j v, j < k → (cs y).toList[j]? = some v → w.cell? ((a'.add (i * k)).add j) = some v) ∧ G y := by
      intro i hi
      have he := hel i hi
      rw [List.getElem?_eq_getElem (by omega), hk] at he
      cases hc : w.cells? base (a'.add (i * k)) k with
      | none => rw [hc] at he; cases he
      | some c =>
        rw [hc] at he
        obtain ⟨y, rfl, hy⟩ := ho n c _ (by omega) he
        exact ⟨y, fun j v hj hv => cells_ix hc j v hj hv, hy⟩
    obtain ⟨f, hf⟩ := choose_lt hall
    have hget : ∀ i x, ((List.range len).map f)[i]? = some x → i < len ∧ f i = x := by
      intro i x hx
      have hi : i < len := by
        have := (List.getElem?_eq_some_iff.1 hx).1
        simpa using this
      rw [List.getElem?_map, List.getElem?_range hi] at hx
      exact ⟨hi, by simpa using hx⟩
    refine ⟨(List.range len).map f, by simp, ?_, ?_, hl, hm, fun e => by cases e⟩
    · intro i x hx
      obtain ⟨hi, hx'⟩ := hget i x hx
      have q := (hf i hi).1
      rw [hx'] at q
      have hspot : a'.spot = none := by
        have hz : 0 < (cs (f 0)).toList.length := by rw [Array.length_toList, hcs]; exact hk0
        have h0 := (hf 0 (by omega)).1 0 _ hk0 (List.getElem?_eq_getElem hz)
        rw [Nat.zero_mul] at h0
        have e0 : (a'.add 0).add 0 = a' := rfl
        rw [e0] at h0
        exact World.cell?_spot h0
      obtain ⟨b, off, spot⟩ := a'
      simp only at hspot
      subst hspot
      have hc : CellsAt w b (off + i * k) (cs x) := fun j v hv => by
        have hj : j < k := by
          have := (Array.getElem?_eq_some_iff.1 hv).1
          rw [hcs] at this; exact this
        have h := q j v hj (by rw [Array.getElem?_toList]; exact hv)
        rw [add_off, add_off] at h
        exact h
      refine ⟨b, off, rfl, hc.lt (by rw [hcs]; exact hk0), hc, hG x ?_⟩
      rw [← hx']
      exact (hf i hi).2
    · intro x hx
      obtain ⟨i, hi⟩ := List.mem_iff_getElem?.1 hx
      obtain ⟨hi', rfl⟩ := hget i x hi
      exact (hf i hi').2

/-- What a symbol of an argument is bound by. -/
def ASym (s : SymM) : Prop := I64 s.kind ∧ I64 s.sort
structure AProd (w : World) (p : ProdM) : Prop where
  inn : ProdIn w p
  left : I64 p.left
  role : I64 p.role
  frm : I64 p.frm
  cons : p.cons.size ≤ maxLen
  syms : ∀ s, s ∈ p.right → ASym s
  len : p.right.length ≤ p.rc
  cap : p.rc ≤ maxLen
  nil : p.ra = none → p.rc = 0
/-- What a grammar of an argument is bound by. -/
structure AGram (w : World) (g : GramM) : Prop where
  inn : GIn w g
  start : I64 g.start
  names : ∀ s, s ∈ g.sorts → s.size ≤ maxLen
  prods : ∀ p, p ∈ g.prods → AProd w p
  forb : ∀ f, f ∈ g.forbid → FitF f
  fol : ∀ f, f ∈ g.follow → I64 f.sort
  sl : g.sorts.length ≤ g.sc
  sc : g.sc ≤ maxLen
  sn : g.sa = none → g.sc = 0
  pl : g.prods.length ≤ g.pc
  pc : g.pc ≤ maxLen
  pn : g.pa = none → g.pc = 0
  fl : g.forbid.length ≤ g.fc
  fc : g.fc ≤ maxLen
  fn : g.fa = none → g.fc = 0
  wl : g.follow.length ≤ g.wc
  wc : g.wc ≤ maxLen
  wn : g.wa = none → g.wc = 0

instance : Inhabited SymM := ⟨⟨0, 0#256, 0⟩⟩
instance : Inhabited ProdM := ⟨⟨0, none, 0, [], ⟨#[]⟩, 0, false, false, 0⟩⟩
instance : Inhabited ForM := ⟨⟨0, 0, 0⟩⟩
instance : Inhabited FolM := ⟨⟨0, 0#256⟩⟩
instance : Inhabited TreeM := ⟨.node 0 0 none 0 []⟩

set_option maxRecDepth 100000 in
theorem sym_open {fuel : Nat} {cs : List Value} {x : DataW H × List MemPlace} (h : DataW.trod enc Tryz.prog w base spare held fuel 60 cs = some x) : ∃ y : SymM, cs = (symC y).toList ∧ ASym y := by
  obtain ⟨n, _, hl, hf⟩ := trod_fields Tryz.underlying60 h
  obtain ⟨_, h0⟩ := hf 0 _ rfl
  obtain ⟨_, h1⟩ := hf 1 _ rfl
  obtain ⟨_, h2⟩ := hf 2 _ rfl
  rw [cellsOf60] at hl
  match cs, hl with
  | [a, b0, b1, b2, b3, c], _ =>
    simp only [cellsOf3, cellsOf58, cellsOf47, List.drop_zero, List.take_succ_cons, List.take_zero, List.drop_succ_cons] at h0 h1 h2
    obtain ⟨kd, rfl, r0⟩ := open_i64 Tryz.underlying58 h0
    obtain ⟨st, hst⟩ := st_open h1
    simp at hst
    obtain ⟨rfl, rfl, rfl, rfl⟩ := hst
    obtain ⟨so, rfl, r2⟩ := open_i64 Tryz.underlying3 h2
    exact ⟨⟨kd, st, so⟩, rfl, r0, r2⟩
set_option maxRecDepth 100000 in
theorem for_open {fuel : Nat} {cs : List Value} {x : DataW H × List MemPlace} (h : DataW.trod enc Tryz.prog w base spare held fuel 85 cs = some x) : ∃ y : ForM, cs = (forC y).toList ∧ FitF y := by
  obtain ⟨n, _, hl, hf⟩ := trod_fields Tryz.underlying85 h
  obtain ⟨_, h0⟩ := hf 0 _ rfl
  obtain ⟨_, h1⟩ := hf 1 _ rfl
  obtain ⟨_, h2⟩ := hf 2 _ rfl
  rw [cellsOf85] at hl
  match cs, hl with
  | [a, b, c], _ =>
    simp only [cellsOf3, List.drop_zero, List.take_succ_cons, List.take_zero, List.drop_succ_cons] at h0 h1 h2
    obtain ⟨x0, rfl, r0⟩ := open_i64 Tryz.underlying3 h0
    obtain ⟨x1, rfl, r1⟩ := open_i64 Tryz.underlying3 h1
    obtain ⟨x2, rfl, r2⟩ := open_i64 Tryz.underlying3 h2
    exact ⟨⟨x0, x1, x2⟩, rfl, ⟨r0, r1, r2⟩⟩
set_option maxRecDepth 100000 in
theorem fol_open {fuel : Nat} {cs : List Value} {x : DataW H × List MemPlace} (h : DataW.trod enc Tryz.prog w base spare held fuel 87 cs = some x) : ∃ y : FolM, cs = (folC y).toList ∧ I64 y.sort := by
  obtain ⟨n, _, hl, hf⟩ := trod_fields Tryz.underlying87 h
  obtain ⟨_, h0⟩ := hf 0 _ rfl
  obtain ⟨_, h1⟩ := hf 1 _ rfl
  rw [cellsOf87] at hl
  match cs, hl with
  | [a, b0, b1, b2, b3], _ =>
    simp only [cellsOf3, cellsOf47, List.drop_zero, List.take_succ_cons, List.take_zero, List.drop_succ_cons] at h0 h1
    obtain ⟨so, rfl, r0⟩ := open_i64 Tryz.underlying3 h0
    obtain ⟨st, hst⟩ := st_open h1
    simp at hst
    obtain ⟨rfl, rfl, rfl, rfl⟩ := hst
    exact ⟨⟨so, st⟩, rfl, r0⟩
theorem name_open {fuel : Nat} {cs : List Value} {x : DataW H × List MemPlace} (h : DataW.trod enc Tryz.prog w base spare held fuel 9 cs = some x) : ∃ y : ByteArray, cs = (strC y).toList ∧ y.size ≤ maxLen := by
  obtain ⟨s, e, _, hs⟩ := DataW.trod_string Tryz.underlying9 h
  exact ⟨s, e, hs⟩
set_option maxRecDepth 100000 in
theorem prod_open {fuel : Nat} {cs : List Value} {x : DataW H × List MemPlace} (h : DataW.trod enc Tryz.prog w base spare held fuel 65 cs = some x) : ∃ y : ProdM, cs = (prodC y).toList ∧ AProd w y := by
  obtain ⟨n, _, hl, hf⟩ := trod_fields Tryz.underlying65 h
  obtain ⟨_, h0⟩ := hf 0 _ rfl
  obtain ⟨_, h1⟩ := hf 1 _ rfl
  obtain ⟨_, h2⟩ := hf 2 _ rfl
  obtain ⟨_, h3⟩ := hf 3 _ rfl
  obtain ⟨_, h4⟩ := hf 4 _ rfl
  obtain ⟨_, h5⟩ := hf 5 _ rfl
  obtain ⟨_, h6⟩ := hf 6 _ rfl
  rw [cellsOf65] at hl
  match cs, hl with
  | [a, b, c, d, e, f, g], _ =>
    simp only [cellsOf3, cellsOf4, cellsOf9, cellsOf62, cellsOf63, List.drop_zero, List.take_succ_cons, List.take_zero, List.drop_succ_cons] at h0 h1 h2 h3 h4 h5 h6
    obtain ⟨x0, rfl, r0⟩ := open_i64 Tryz.underlying3 h0
    obtain ⟨ra, len, rc, rfl⟩ : ∃ ra len rc, b = .slice ra len rc := by
      rcases DataW.trod_slice Tryz.underlying62 h1 with ⟨e0, _⟩ | ⟨_, _, _, _, _, _, _, e0, _⟩
      · simp at e0; exact ⟨_, _, _, e0⟩
      · simp at e0; exact ⟨_, _, _, e0⟩
    obtain ⟨dd, rfl, q1, q2, q3, q4, q5⟩ := row_open (k := 6) (cs := symC) (G := ASym) (GW := NoG) Tryz.underlying62 cellsOf60 (by omega) (fun _ => rfl) h1 (fun _ _ => trivial) (fun _ _ _ _ h => sym_open h)
    obtain ⟨s, rfl, hs⟩ := open_str h2
    obtain ⟨x3, rfl, r3⟩ := open_i64 Tryz.underlying63 h3
    obtain ⟨x4, rfl⟩ := open_bl h4
    obtain ⟨x5, rfl⟩ := open_bl h5
    obtain ⟨x6, rfl, r6⟩ := open_i64 Tryz.underlying3 h6
    exact ⟨⟨x0, ra, rc, dd, s, x3, x4, x5, x6⟩, rfl, ⟨q1, r0, r3, r6, hs, q2, q3, q4, q5⟩⟩
set_option maxRecDepth 100000 in
theorem gram_open {fuel : Nat} {cs : List Value} {x : DataW H × List MemPlace} (h : DataW.trod enc Tryz.prog w base spare held fuel 27 cs = some x) : ∃ y : GramM, cs = (gramC y).toList ∧ AGram w y := by
  obtain ⟨n, _, hl, hf⟩ := trod_fields Tryz.underlying27 h
  obtain ⟨_, h0⟩ := hf 0 _ rfl
  obtain ⟨_, h1⟩ := hf 1 _ rfl
  obtain ⟨_, h2⟩ := hf 2 _ rfl
  obtain ⟨_, h3⟩ := hf 3 _ rfl
  obtain ⟨_, h4⟩ := hf 4 _ rfl
  rw [cellsOf27] at hl
  match cs, hl with
  | [a, b, c, d, e], _ =>
    simp only [cellsOf3, cellsOf22, cellsOf23, cellsOf24, cellsOf25, List.drop_zero, List.take_succ_cons, List.take_zero, List.drop_succ_cons] at h0 h1 h2 h3 h4
    have sl : ∀ {T E : Nat} {v : Value} {m : Nat} {x : DataW H × List MemPlace}, Tryz.prog.underlying T = some (.slice E) → DataW.trod enc Tryz.prog w base spare held m T [v] = some x → ∃ ra len rc, v = .slice ra len rc := by
      intro T E v m x hT hx
      rcases DataW.trod_slice hT hx with ⟨e0, _⟩ | ⟨_, _, _, _, _, _, _, e0, _⟩
      · simp at e0; exact ⟨_, _, _, e0⟩
      · simp at e0; exact ⟨_, _, _, e0⟩
    obtain ⟨sa, slen, sc, rfl⟩ := sl Tryz.underlying22 h0
    obtain ⟨ds, rfl, s1, s2, s3, s4, s5⟩ := row_open (k := 1) (cs := strC) (G := fun s => s.size ≤ maxLen) (GW := NoG) Tryz.underlying22 cellsOf9 (by omega) (fun _ => rfl) h0 (fun _ _ => trivial) (fun _ _ _ _ h => name_open h)
    obtain ⟨pa, plen, pc, rfl⟩ := sl Tryz.underlying23 h1
    obtain ⟨dp, rfl, p1, p2, p3, p4, p5⟩ := row_open (k := 7) (cs := prodC) (G := AProd w) (GW := ProdIn) Tryz.underlying23 cellsOf65 (by omega) (fun _ => rfl) h1 (fun _ h => h.inn) (fun _ _ _ _ h => prod_open h)
    obtain ⟨st, rfl, r2⟩ := open_i64 Tryz.underlying3 h2
    obtain ⟨fa, flen, fc, rfl⟩ := sl Tryz.underlying24 h3
    obtain ⟨df, rfl, f1, f2, f3, f4, f5⟩ := row_open (k := 3) (cs := forC) (G := FitF) (GW := NoG) Tryz.underlying24 cellsOf85 (by omega) (fun _ => rfl) h3 (fun _ _ => trivial) (fun _ _ _ _ h => for_open h)
    obtain ⟨wa, wlen, wc, rfl⟩ := sl Tryz.underlying25 h4
    obtain ⟨dw, rfl, w1, w2, w3, w4, w5⟩ := row_open (k := 5) (cs := folC) (G := fun f => I64 f.sort) (GW := NoG) Tryz.underlying25 cellsOf87 (by omega) (fun _ => rfl) h4 (fun _ _ => trivial) (fun _ _ _ _ h => fol_open h)
    exact ⟨⟨sa, sc, ds, pa, pc, dp, st, fa, fc, df, wa, wc, dw⟩, rfl, ⟨⟨s1, p1, f1, w1⟩, r2, s2, p2, f2, w2, s3, s4, s5, p3, p4, p5, f3, f4, f5, w3, w4, w5⟩⟩

/-- A tree of an argument: at every depth its bytes are bytes, and its kids are no more than a slice has. -/
def ATree (w : World) : Nat → TreeM → Prop
  | 0, _ => True
  | d + 1, .node p b ka kc kids => I64 p ∧ (0 ≤ b ∧ b < 256) ∧ kids.length ≤ kc ∧ kc ≤ maxLen ∧ (ka = none → kc = 0) ∧ ∀ k, k ∈ kids → ATree w d k
set_option maxRecDepth 100000 in
theorem tree_open : ∀ (fuel : Nat) (cs : List Value) (x : DataW H × List MemPlace), DataW.trod enc Tryz.prog w base spare held fuel 70 cs = some x → ∃ y : TreeM, cs = (treeC y).toList ∧ TreeIn w y ∧ ∀ d, ATree w d y := by
  intro fuel
  induction fuel using Nat.strongRecOn with
  | _ fuel ih =>
    intro cs x h
    obtain ⟨n, hn, hl, hf⟩ := trod_fields Tryz.underlying70 h
    obtain ⟨_, h0⟩ := hf 0 _ rfl
    obtain ⟨_, h1⟩ := hf 1 _ rfl
    obtain ⟨_, h2⟩ := hf 2 _ rfl
    rw [cellsOf70] at hl
    match cs, hl with
    | [a, b, c], _ =>
      simp only [cellsOf3, cellsOf5, cellsOf68, List.drop_zero, List.take_succ_cons, List.take_zero, List.drop_succ_cons] at h0 h1 h2
      obtain ⟨x0, rfl, r0⟩ := open_i64 Tryz.underlying3 h0
      obtain ⟨x1, rfl, r1⟩ := open_u8 h1
      obtain ⟨ra, len, rc, rfl⟩ : ∃ ra len rc, c = .slice ra len rc := by
        rcases DataW.trod_slice Tryz.underlying68 h2 with ⟨e0, _⟩ | ⟨_, _, _, _, _, _, _, e0, _⟩
        · simp at e0; exact ⟨_, _, _, e0⟩
        · simp at e0; exact ⟨_, _, _, e0⟩
      obtain ⟨dd, rfl, q1, q2, q3, q4, q5⟩ := row_open (k := 3) (cs := treeC) (G := fun t => TreeIn w t ∧ ∀ d, ATree w d t) (GW := TreeIn) Tryz.underlying68 cellsOf70 (by omega) (fun x => by cases x; rfl) h2 (fun _ h => h.1) (fun m c y hm h => ih m (by omega) c y h)
      refine ⟨.node x0 x1 ra rc dd, rfl, (tree_in ..).2 q1, fun d => ?_⟩
      cases d with
      | zero => trivial
      | succ d => exact ⟨r0, r1, q3, q4, q5, fun k hk => (q2 k hk).2 d⟩
end Go.Proofs.YtodnlcbnbkkanaaGreatDoor
end
section
namespace Go.Proofs.YtodnlcbnbkkanaaGreatDoor
open Go Go.RowKit

def vastP (p : ProdM) : Bool := decide (40 < p.right.length) || decide (1500 < p.cons.size)
/-- Is a grammar more than is done? -/
def vastB (g : GramM) : Bool := decide (40 < g.sorts.length) || (decide (60 < g.prods.length) || (decide (40 < g.forbid.length) || (decide (40 < g.follow.length) || (g.sorts.any (fun s => decide (1500 < s.size)) || g.prods.any vastP))))

theorem any_yes {α : Type} {p : α → Bool} {l : List α} {i : Nat} {x : α} (h : l[i]? = some x) (hp : p x = true) : l.any p = true := List.any_eq_true.2 ⟨x, List.mem_of_getElem? h, hp⟩
theorem any_no {α : Type} {p : α → Bool} {l : List α} (h : ∀ (i : Nat) (x : α), l[i]? = some x → p x = false) : l.any p = false := by
  rw [List.any_eq_false]
  intro x hx
  obtain ⟨i, hi⟩ := List.mem_iff_getElem?.1 hx
  simp [h i x hi]

/-- What a grammar that is not too vast is bound by. -/
theorem AGram.fit {w : World} {g : GramM} (h : AGram w g) (hv : vastB g = false) : FitG g := by
  unfold vastB at hv
  simp only [Bool.or_eq_false_iff, decide_eq_false_iff_not, List.any_eq_false, decide_eq_true_eq] at hv
  obtain ⟨h1, h2, h3, h4, h5, h6⟩ := hv
  refine ⟨⟨by omega, by omega, fun x hx => ?_, by omega, by omega, fun f hf => (h.forb f hf).at_, fun s hs => ?_⟩, h.forb, h.fol⟩
  · have := h6 x hx
    unfold vastP at this
    simp at this
    omega
  · have := h5 s hs
    omega
end Go.Proofs.YtodnlcbnbkkanaaGreatDoor
end
