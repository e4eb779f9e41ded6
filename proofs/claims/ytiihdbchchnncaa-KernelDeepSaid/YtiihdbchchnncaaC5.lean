import Derived.Maps.Keyed
import Derived.Maps.OwnSet
import Derived.Maps.OwnOps
import Derived.Maps.Views
import Derived.DeepKeys5
import Derived.ChangeSame
import Derived.Test.YtiihdbchchnncaaC4
namespace Go.Proofs.Ytiihdbchchnncaa
open Go Go.RowKit Go.Maps Go.WideMaps

/-- Does each thing stand once (and none among those of acc)? -/
def onceA {α : Type} (eq : α → α → Bool) : List α → List α → Bool
  | _, [] => true
  | acc, x :: r => !acc.any (fun y => eq y x) && onceA eq (acc ++ [x]) r
theorem onceA_iff {α : Type} (eq : α → α → Bool) : ∀ (l acc : List α), onceA eq acc l = true ↔ (∀ x, x ∈ l → ∀ y, y ∈ acc → eq y x = false) ∧ l.Pairwise (fun a b => eq a b = false) := by
  intro l
  induction l with
  | nil => intro acc; simp [onceA]
  | cons x r ih =>
    intro acc
    rw [onceA, Bool.and_eq_true, ih, List.pairwise_cons]
    constructor
    · rintro ⟨h1, h2, h3⟩
      have h1' : ∀ y, y ∈ acc → eq y x = false := fun y hy => by
        cases h : eq y x
        · rfl
        · have : acc.any (fun y => eq y x) = true := List.any_eq_true.2 ⟨y, hy, h⟩
          rw [this] at h1; cases h1
      refine ⟨fun z hz y hy => ?_, fun z hz => h2 z hz x (by simp), h3⟩
      rcases List.mem_cons.1 hz with rfl | hz
      · exact h1' y hy
      · exact h2 z hz y (by simp [hy])
    · rintro ⟨h1, h2, h3⟩
      refine ⟨?_, fun z hz y hy => ?_, h3⟩
      · have : acc.any (fun y => eq y x) = false := by
          rw [List.any_eq_false]
          intro y hy
          rw [h1 x (by simp) y hy]; simp
        rw [this]; rfl
      · rcases List.mem_append.1 hy with hy | hy
        · exact h1 z (by simp [hz]) y hy
        · simp at hy; subst hy; exact h2 z hz
theorem onceA_reverse {α : Type} (eq : α → α → Bool) (hs : ∀ a b, eq a b = eq b a) (l : List α) : onceA eq [] l.reverse = onceA eq [] l := by
  rw [Bool.eq_iff_iff, onceA_iff, onceA_iff, List.pairwise_reverse]
  simp only [List.not_mem_nil, false_imp_iff, implies_true, true_and]
  constructor
  · intro h; exact h.imp fun h => by rw [hs]; exact h
  · intro h; exact h.imp fun h => by rw [hs]; exact h

theorem addKey_len (acc : List Lit) (x : Lit) : (addKey acc x).length ≤ acc.length + 1 := by unfold addKey; split <;> simp
theorem fold_len : ∀ (l acc : List Lit), (l.foldl addKey acc).length ≤ acc.length + l.length := by
  intro l
  induction l with
  | nil => intro acc; simp
  | cons x r ih => intro acc; rw [List.foldl_cons]; have := ih (addKey acc x); have := addKey_len acc x; simp only [List.length_cons]; omega
theorem fold_once : ∀ (l acc : List Lit), decide ((l.foldl addKey acc).length = acc.length + l.length) = onceA (fun y x => y.sameKey x) acc l := by
  intro l
  induction l with
  | nil => intro acc; simp [onceA]
  | cons x r ih =>
    intro acc
    rw [List.foldl_cons, onceA]
    cases h : acc.any (fun y => y.sameKey x)
    · have h2 : addKey acc x = acc ++ [x] := by unfold addKey; rw [h]; rfl
      rw [h2, ← ih]
      simp only [List.length_append, List.length_cons, List.length_nil, Bool.not_false, Bool.true_and]
      rw [Bool.eq_iff_iff]; simp only [decide_eq_true_eq]; omega
    · have h2 : addKey acc x = acc := by unfold addKey; rw [h]; rfl
      have h3 := fold_len r acc
      rw [h2]
      simp only [List.length_cons, Bool.not_true, Bool.false_and, decide_eq_false_iff_not]
      omega
theorem once_map {α : Type} (key : α → Lit) (eq : α → α → Bool) : ∀ (l acc : List α), (∀ a b, a ∈ acc ++ l → b ∈ acc ++ l → (key a).sameKey (key b) = eq a b) → onceA (fun y x => y.sameKey x) (acc.map key) (l.map key) = onceA eq acc l := by
  intro l
  induction l with
  | nil => intro acc _; simp [onceA]
  | cons x r ih =>
    intro acc h
    rw [List.map_cons, onceA, onceA]
    have e := ih (acc ++ [x]) (fun a b ha hb => h a b (by simpa using ha) (by simpa using hb))
    rw [List.map_append, List.map_cons, List.map_nil] at e
    rw [e, List.any_map]
    congr 2
    rw [Bool.eq_iff_iff, List.any_eq_true, List.any_eq_true]
    constructor
    · rintro ⟨y, hy, hk⟩; exact ⟨y, hy, by rw [← h y x (by simp [hy]) (by simp)]; exact hk⟩
    · rintro ⟨y, hy, hk⟩; exact ⟨y, hy, by show (key y).sameKey (key x) = true; rw [h y x (by simp [hy]) (by simp)]; exact hk⟩

/-- A number that a word of 64 bits holds. -/
def I64 (n : Int) : Prop := -9223372036854775808 ≤ n ∧ n ≤ 9223372036854775807
theorem wf_int {n : Int} (h : I64 n) : (Lit.int .i64 n).wf = true := by
  have h0 : IntKind.i64.min = -9223372036854775808 := by decide
  have h1 : IntKind.i64.max = 9223372036854775807 := by decide
  unfold I64 at h
  simp [Lit.wf, h0, h1]; omega
abbrev unitE : Value → Option (DataW Unit × List MemPlace) := unitElem (H := Unit)

theorem laidOut : laidOutB Try.prog = true := by kernel_rfl
theorem key3 : Keyed Try.prog 3 := int_keyed Try.underlying3
theorem key78 : Keyed Try.prog 78 := Keyed.of_law (deep_law_gate laidOut (of_decide_eq_true (by kernel_rfl)) (of_decide_eq_true (by kernel_rfl)) (by kernel_rfl) (by kernel_rfl))
theorem key9 : Keyed Try.prog 9 := string_keyed Try.underlying9

theorem keyLits3 (d : Nat) (n : Int) (h : I64 n) : Try.prog.keyLits (d + 1) 3 [.int .i64 n] = some [.int .i64 n] := by
  unfold Program.keyLits
  simp [Try.underlying3, wf_int h]
theorem fields78 : (Try.prog.fieldsOf 78).toList.map (fun f => (f.name, f.type, f.offset)) = [("Parent", 3, 0), ("At", 3, 1), ("Child", 3, 2)] := by kernel_rfl
theorem cellsOf3 : Try.prog.cellsOf 3 = 1 := by kernel_rfl
theorem cellsOf78 : Try.prog.cellsOf 78 = 3 := by kernel_rfl
theorem keyType78 : Try.prog.keyType 78 = true := by kernel_rfl

structure FitF (f : ForM) : Prop where
  parent : I64 f.parent
  at_ : I64 f.at_
  child : I64 f.child

theorem key_for (f : ForM) (h : FitF f) : keyOf Try.prog 78 (forV f) = some (.string (keyBytes [.int .i64 f.parent, .int .i64 f.at_, .int .i64 f.child])) := by
  have hsz : ∃ m, Try.prog.types.size = m + 1 := ⟨Try.prog.types.size - 1, by have : 0 < Try.prog.types.size := of_decide_eq_true (by kernel_rfl); omega⟩
  obtain ⟨m, hm⟩ := hsz
  have h1 : Try.prog.underlying 78 = some (.struct (Try.prog.fieldsOf 78)) := by kernel_rfl
  have hf := fields78
  have hfm : (forV f).formed Try.prog 78 = true := by simp [forV, forC, Value.formed, h1, cellsOf78]
  unfold keyOf
  rw [h1, keyType78, hfm, hm]
  unfold Program.keyLits
  simp only [h1, cellsOf78]
  have hall : (Try.prog.fieldsOf 78).all (fun x => x.name != "_") = true := by kernel_rfl
  rw [hall]
  revert hf
  generalize (Try.prog.fieldsOf 78).toList = fs
  intro hf
  obtain ⟨f0, fs0, rfl⟩ : ∃ f l, fs = f :: l := by cases fs with | nil => simp at hf | cons f l => exact ⟨f, l, rfl⟩
  obtain ⟨f1, fs1, rfl⟩ : ∃ f l, fs0 = f :: l := by cases fs0 with | nil => simp at hf | cons f l => exact ⟨f, l, rfl⟩
  obtain ⟨f2, fs2, rfl⟩ : ∃ f l, fs1 = f :: l := by cases fs1 with | nil => simp at hf | cons f l => exact ⟨f, l, rfl⟩
  obtain rfl : fs2 = [] := by cases fs2 with | nil => rfl | cons f l => simp at hf
  simp only [List.map_cons, List.map_nil, List.cons.injEq, Prod.mk.injEq, and_true] at hf
  obtain ⟨⟨_, t0, o0⟩, ⟨_, t1, o1⟩, ⟨_, t2, o2⟩⟩ := hf
  simp only [Bool.and_self, if_true, forV, forC, Value.cells, List.mapM_cons, List.mapM_nil, t0, t1, t2, o0, o1, o2, cellsOf3]
  simp [keyLits3 m _ h.parent, keyLits3 m _ h.at_, keyLits3 m _ h.child]

theorem forV_inj {f g : ForM} (h : forV f = forV g) : f = g := by
  obtain ⟨a, b, c⟩ := f
  obtain ⟨a', b', c'⟩ := g
  unfold forV forC at h
  injection h with h
  simpa using h
def forEq (f g : ForM) : Bool := f.parent == g.parent && (f.at_ == g.at_ && f.child == g.child)
theorem forEq_iff (f g : ForM) : forEq f g = true ↔ f = g := by
  obtain ⟨a, b, c⟩ := f
  obtain ⟨a', b', c'⟩ := g
  simp [forEq]
def forK (f : ForM) : Lit := .string (keyBytes [.int .i64 f.parent, .int .i64 f.at_, .int .i64 f.child])
theorem forK_same {f g : ForM} (hf : FitF f) (hg : FitF g) : (forK f).sameKey (forK g) = forEq f g := by
  rw [Bool.eq_iff_iff, forEq_iff]
  constructor
  · intro h
    have e := WideAt.sameKey_eq h
    have h1 := key_for f hf
    have h2 := key_for g hg
    unfold forK at e
    rw [← e] at h2
    exact forV_inj (key78.inj h1 h2)
  · rintro rfl; exact WideAt.sameKey_self (key78.key (key_for f hf))
theorem intK_same (a b : Int) : (Lit.int .i64 a).sameKey (.int .i64 b) = (a == b) := by
  simp [Lit.sameKey]; rfl

theorem take_snoc {α : Type} (l : List α) (k : Nat) (x : α) (h : l[k]? = some x) : l.take (k + 1) = l.take k ++ [x] := by
  rw [List.take_add_one, h]; rfl

set_option maxRecDepth 100000 in
set_option maxHeartbeats 1000000 in
theorem onceFor_any (a : Option Addr) (c : Nat) (l : List ForM) (w : World) (hl : RowFor w a l) (hn : l.length ≤ 1048576) (hF : ∀ f, f ∈ l → FitF f) :
    Calls Try.prog 81 #[.slice a l.length c] w fun e w' => e = .returned (.bool (onceA forEq [] l)) ∧ Below w.heap.size w w' := by
  have HL := Lib.hid hl
  have HF := Lib.hid hF
  have HO : Hid (decide (size (setOf (.agg []) (l.map forK) : DataW Unit) = l.length) = onceA forEq [] l) := Lib.hid (by
    rw [size_setOf _ _ (fun x hx => by obtain ⟨f, hf, rfl⟩ := List.mem_map.1 hx; exact key78.key (key_for f (hF f hf)))]
    have h1 := fold_once (l.map forK) []
    simp only [List.length_nil, Nat.zero_add, List.length_map] at h1
    rw [h1]
    exact once_map forK forEq l [] (fun a b ha hb => forK_same (hF a (by simpa using ha)) (hF b (by simpa using hb))))
  clear hl hF
  obtain ⟨n, hln⟩ : ∃ n, n = l.length := ⟨_, rfl⟩
  have HN := Lib.hid hln
  rw [← hln] at hn ⊢
  rw [← hln] at HO
  clear hln
  have hmm := @run_makeMap Try.prog
  have hM0 := World.ownsMap_made w Try.prog 78 unitE
  have hB0 : Hid (Below w.heap.size w (w.alloc (.map #[] 0))) := Lib.hid ((Below.refl _ _).alloc (Nat.le_refl _) _)
  go_enter Try.func81, Try.ntmps81
  go_wp2
  go_loopw [9] (fun i wr => ∃ (k : Nat), i = .int .i64 k ∧ k ≤ n ∧ wr.ownsMap Try.prog 78 unitE w.heap.size k (setOf (.agg []) ((l.take k).map forK)) ∧ Hid (Below w.heap.size w wr))
    (fun i _ => n - (intOf i).toNat)
  case atStart => exact ⟨0, rfl, Nat.zero_le _, hM0, hB0⟩
  case round =>
    clear hM0 hB0
    obtain ⟨k, rfl, hk, hown, hB⟩ := hrel
    by_cases hlt : k < n
    · obtain ⟨f, hf⟩ : ∃ f, l[k]? = some f := ⟨_, List.getElem?_eq_getElem (by rw [← HN.out]; exact hlt)⟩
      have HS : Hid (setOf (.agg []) ((l.take (k + 1)).map forK) = (setOf (.agg []) ((l.take k).map forK) : DataW Unit).put (forK f) (.agg [])) := Lib.hid (by rw [take_snoc l k f hf, List.map_append, List.map_cons, List.map_nil, setOf_snoc])
      have HK := Lib.hid (key_for f (HF.out f (List.mem_of_getElem? hf)))
      obtain ⟨b, off, rfl, hbw, hc, _⟩ := HL.out k f hf
      have hc := hc.below hB.out hbw
      have hbr := Nat.lt_of_lt_of_le hbw hB.out.size
      obtain ⟨c0, c1, c2⟩ := For_at hc
      have hsz := hB.out.size
      have hwm := hown.lt
      have HB1 := Lib.hid (hB.out.alloc hsz (.cells (forC f) 78))
      clear hc HF hf
      unfold forV at HK
      unfold forC at *
      have n1 : (k : Int) < (n : Int) := by omega
      go_wp2_with (first
        | (at_mapUpdate; refine wpList_mapUpdate_own _ rfl _ _ _ 134 rfl 78 135 key78 Try.underlying134 unitE w.heap.size k _ rfl (hown.alloc _) (by unfold maxLen; omega) _ _ _ rfl rfl HK.out (.agg []) [] unitElem_mk ?_; intro w1 hown1 hgrow1)
        | go_in)
      have hB2 : Hid (Below w.heap.size w w1) := Lib.hid (HB1.out.grown hgrow1 (by simp; omega) (fun j hj => by cases hj; exact Nat.le_refl _))
      have hown2 : w1.ownsMap Try.prog 78 unitE w.heap.size (k + 1) (setOf (.agg []) ((l.take (k + 1)).map forK)) := by rw [HS.out]; exact hown1
      clear hown1 hgrow1
      go_wp2
      go_roundw
      case rel => exact ⟨k + 1, by go_num, by omega, hown2, hB2⟩
      case measure => simp [intOf]; omega
    · obtain rfl : k = n := by omega
      have HT : Hid (l.take k = l) := Lib.hid (List.take_of_length_le (by rw [← HN.out]; exact Nat.le_refl _))
      rw [HT.out] at hown
      go_wp2_with (first
        | (at_len; refine wpList_len_own _ rfl _ 134 rfl 78 135 Try.underlying134 unitE w.heap.size k _ rfl hown ?_)
        | go_in)
      go_wp2
      go_ret
      exact ⟨by
        rw [← HO.out]
        show Ending.returned (.bool _) = Ending.returned (.bool _)
        rw [Ending.returned.injEq, Value.bool.injEq, Bool.eq_iff_iff]
        simp
        exact Int.ofNat_inj, hB.out⟩

set_option maxRecDepth 100000 in
set_option maxHeartbeats 1000000 in
theorem onceInt_any (a : Option Addr) (c : Nat) (l : List Int) (w : World) (hl : RowInt w a l) (hn : l.length ≤ 1048576) (hF : ∀ f, f ∈ l → I64 f) :
    Calls Try.prog 85 #[.slice a l.length c] w fun e w' => e = .returned (.bool (onceA (fun a b => a == b) [] l)) ∧ Below w.heap.size w w' := by
  have HL := Lib.hid hl
  have HF := Lib.hid hF
  have HO : Hid (decide (size (setOf (.agg []) (l.map (Lit.int .i64)) : DataW Unit) = l.length) = onceA (fun a b => a == b) [] l) := Lib.hid (by
    rw [size_setOf _ _ (fun x hx => by obtain ⟨f, hf, rfl⟩ := List.mem_map.1 hx; exact key3.key (keyOf_int_mk Try.underlying3 (wf_int (hF f hf))))]
    have h1 := fold_once (l.map (Lit.int .i64)) []
    simp only [List.length_nil, Nat.zero_add, List.length_map] at h1
    rw [h1]
    exact once_map (Lit.int .i64) (fun a b => a == b) l [] (fun a b ha hb => intK_same a b))
  clear hl hF
  obtain ⟨n, hln⟩ : ∃ n, n = l.length := ⟨_, rfl⟩
  have HN := Lib.hid hln
  rw [← hln] at hn ⊢
  rw [← hln] at HO
  clear hln
  have hmm := @run_makeMap Try.prog
  have hM0 := World.ownsMap_made w Try.prog 3 unitE
  have hB0 : Hid (Below w.heap.size w (w.alloc (.map #[] 0))) := Lib.hid ((Below.refl _ _).alloc (Nat.le_refl _) _)
  go_enter Try.func85, Try.ntmps85
  go_wp2
  go_loopw [9] (fun i wr => ∃ (k : Nat), i = .int .i64 k ∧ k ≤ n ∧ wr.ownsMap Try.prog 3 unitE w.heap.size k (setOf (.agg []) ((l.take k).map (Lit.int .i64))) ∧ Hid (Below w.heap.size w wr))
    (fun i _ => n - (intOf i).toNat)
  case atStart => exact ⟨0, rfl, Nat.zero_le _, hM0, hB0⟩
  case round =>
    clear hM0 hB0
    obtain ⟨k, rfl, hk, hown, hB⟩ := hrel
    by_cases hlt : k < n
    · obtain ⟨f, hf⟩ : ∃ f, l[k]? = some f := ⟨_, List.getElem?_eq_getElem (by rw [← HN.out]; exact hlt)⟩
      have HS : Hid (setOf (.agg []) ((l.take (k + 1)).map (Lit.int .i64)) = (setOf (.agg []) ((l.take k).map (Lit.int .i64)) : DataW Unit).put (.int .i64 f) (.agg [])) := Lib.hid (by rw [take_snoc l k f hf, List.map_append, List.map_cons, List.map_nil, setOf_snoc])
      have HK := Lib.hid (keyOf_int_mk Try.underlying3 (wf_int (HF.out f (List.mem_of_getElem? hf))))
      obtain ⟨b, off, rfl, hbw, hc, _⟩ := HL.out k f hf
      have hc := hc.below hB.out hbw
      have hbr := Nat.lt_of_lt_of_le hbw hB.out.size
      have c0 := Int_at hc
      rw [Nat.mul_one] at c0
      have hsz := hB.out.size
      have hwm := hown.lt
      clear hc HF hf
      have n1 : (k : Int) < (n : Int) := by omega
      go_wp2_with (first
        | (at_mapUpdate; refine wpList_mapUpdate_own _ rfl _ _ _ 136 rfl 3 135 key3 Try.underlying136 unitE w.heap.size k _ rfl hown (by unfold maxLen; omega) _ _ _ rfl rfl HK.out (.agg []) [] unitElem_mk ?_; intro w1 hown1 hgrow1)
        | go_in)
      have hB2 : Hid (Below w.heap.size w w1) := Lib.hid (hB.out.grown hgrow1 (by omega) (fun j hj => by cases hj; exact Nat.le_refl _))
      have hown2 : w1.ownsMap Try.prog 3 unitE w.heap.size (k + 1) (setOf (.agg []) ((l.take (k + 1)).map (Lit.int .i64))) := by rw [HS.out]; exact hown1
      clear hown1 hgrow1
      go_wp2
      go_roundw
      case rel => exact ⟨k + 1, by go_num, by omega, hown2, hB2⟩
      case measure => simp [intOf]; omega
    · obtain rfl : k = n := by omega
      have HT : Hid (l.take k = l) := Lib.hid (List.take_of_length_le (by rw [← HN.out]; exact Nat.le_refl _))
      rw [HT.out] at hown
      go_wp2_with (first
        | (at_len; refine wpList_len_own _ rfl _ 136 rfl 3 135 Try.underlying136 unitE w.heap.size k _ rfl hown ?_)
        | go_in)
      go_wp2
      go_ret
      exact ⟨by
        rw [← HO.out]
        show Ending.returned (.bool _) = Ending.returned (.bool _)
        rw [Ending.returned.injEq, Value.bool.injEq, Bool.eq_iff_iff]
        simp
        exact Int.ofNat_inj, hB.out⟩
end Go.Proofs.Ytiihdbchchnncaa
