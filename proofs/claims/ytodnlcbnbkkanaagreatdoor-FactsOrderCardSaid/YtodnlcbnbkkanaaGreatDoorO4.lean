import Derived.Laws.IdiomArrays
import Derived.OpenShut
import Derived.Deep.Slices
import Derived.ProofKit
import Derived.ChangeSame
import Derived.WideKeyArr
import Derived.Maps.Keyed
import Derived.Maps.RangeWalk
import Derived.Maps.OwnSet
import Derived.Maps.Views
import Derived.Sort.OwnSorted
import Derived.Test.YtodnlcbnbkkanaaGreatDoorO2
import Derived.Test.YtodnlcbnbkkanaaGreatDoorO3
section
namespace Go.Proofs.YtodnlcbnbkkanaaGreatDoor
open Go Go.RowKit Go.Deep Go.ChangeShapes Go.WideShapes

theorem cellsOf4 : Tryz.prog.cellsOf 4 = 1 := by kernel_rfl
theorem cellsOf9 : Tryz.prog.cellsOf 9 = 1 := by kernel_rfl
theorem cellsOf63 : Tryz.prog.cellsOf 63 = 1 := by kernel_rfl
theorem cellsOf58 : Tryz.prog.cellsOf 58 = 1 := by kernel_rfl
theorem cellsOf45 : Tryz.prog.cellsOf 45 = 1 := by kernel_rfl
theorem cellsOf47 : Tryz.prog.cellsOf 47 = 4 := by kernel_rfl
theorem cellsOf22 : Tryz.prog.cellsOf 22 = 1 := by kernel_rfl
theorem cellsOf23 : Tryz.prog.cellsOf 23 = 1 := by kernel_rfl
theorem cellsOf24 : Tryz.prog.cellsOf 24 = 1 := by kernel_rfl
theorem cellsOf25 : Tryz.prog.cellsOf 25 = 1 := by kernel_rfl
theorem cellsOf62 : Tryz.prog.cellsOf 62 = 1 := by kernel_rfl
theorem cellsOf27 : Tryz.prog.cellsOf 27 = 5 := by kernel_rfl
theorem cellsOf65 : Tryz.prog.cellsOf 65 = 7 := by kernel_rfl
theorem cellsOf60 : Tryz.prog.cellsOf 60 = 6 := by kernel_rfl
theorem cellsOf87 : Tryz.prog.cellsOf 87 = 5 := by kernel_rfl

theorem u64_rng {n : Int} (h : (Lit.int .u64 n).wf = true) : 0 ≤ n ∧ n < 18446744073709551616 := by
  have h0 : IntKind.u64.min = 0 := by decide
  have h1 : IntKind.u64.max = 18446744073709551615 := by decide
  simp [Lit.wf] at h
  omega
theorem i64_rng {n : Int} (h : (Lit.int .i64 n).wf = true) : I64 n := by
  have h0 : IntKind.i64.min = -9223372036854775808 := by decide
  have h1 : IntKind.i64.max = 9223372036854775807 := by decide
  simp [Lit.wf] at h
  unfold I64
  omega
theorem mapM_at {α β : Type} (f : α → Option β) : ∀ (l : List α) (ys : List β), l.mapM f = some ys → ∀ (j : Nat) (x : α) (y : β), l[j]? = some x → ys[j]? = some y → f x = some y := by
  intro l
  induction l with
  | nil => intro ys h j x y hx; simp at hx
  | cons a l ih =>
    intro ys h j x y hx hy
    rw [List.mapM_cons] at h
    cases ha : f a with
    | none => rw [ha] at h; cases h
    | some b =>
      rw [ha] at h
      cases hl : l.mapM f with
      | none => rw [hl] at h; cases h
      | some bs =>
        rw [hl] at h
        cases h
        cases j with
        | zero => simp at hx hy; rw [← hx, ← hy]; exact ha
        | succ j => exact ih bs hl j x y (by simpa using hx) (by simpa using hy)

variable {H : Type} {enc : TypeId × Value → H} {w : World} {base : Nat} {spare : Nat → Bool} {held : Bool}

theorem cells_ix {a : Addr} {n : Nat} {cs : List Value} (h : w.cells? base a n = some cs) (j : Nat) (v : Value) (hj : j < n) (hv : cs[j]? = some v) : w.cell? (a.add j) = some v := by
  unfold World.cells? at h
  split at h
  · exact mapM_at _ _ _ h j j v (by simp [hj]) hv
  · cases h
theorem trod_fields {P : Program} {t : TypeId} {fs : Array Field} {fuel : Nat} {cs : List Value} {x : DataW H × List MemPlace} (ht : P.underlying t = some (.struct fs)) (h : DataW.trod enc P w base spare held fuel t cs = some x) :
    ∃ n, fuel = n + 1 ∧ cs.length = P.cellsOf t ∧ ∀ (i : Nat) (f : Field), fs.toList[i]? = some f → ∃ y, DataW.trod enc P w base spare held n f.type ((cs.drop f.offset).take (P.cellsOf f.type)) = some y := by
  obtain ⟨xs, n, hn, rfl, hl, hlen, hf⟩ := DataW.trod_struct ht h
  refine ⟨n, hn, hl, fun i f hi' => ?_⟩
  have hi : fs[i]? = some f := by rw [← Array.getElem?_toList]; exact hi'
  have hlt : i < xs.length := by rw [hlen]; exact (Array.getElem?_eq_some_iff.1 hi).1
  exact ⟨xs[i], (hf i f hi).trans (List.getElem?_eq_getElem hlt)⟩
theorem open_u64 {fuel : Nat} {v : Value} {x : DataW H × List MemPlace} (h : DataW.trod enc Tryz.prog w base spare held fuel 45 [v] = some x) : ∃ n : Int, v = .int .u64 n ∧ 0 ≤ n ∧ n < 18446744073709551616 := by
  obtain ⟨n, e, _, hw⟩ := DataW.trod_int Tryz.underlying45 h
  simp at e
  exact ⟨n, e, u64_rng hw⟩
theorem open_i64 {fuel t : Nat} (ht : Tryz.prog.underlying t = some (.int .i64)) {v : Value} {x : DataW H × List MemPlace} (h : DataW.trod enc Tryz.prog w base spare held fuel t [v] = some x) : ∃ n : Int, v = .int .i64 n ∧ I64 n := by
  obtain ⟨n, e, _, hw⟩ := DataW.trod_int ht h
  simp at e
  exact ⟨n, e, i64_rng hw⟩
theorem open_str {fuel : Nat} {v : Value} {x : DataW H × List MemPlace} (h : DataW.trod enc Tryz.prog w base spare held fuel 9 [v] = some x) : ∃ s : ByteArray, v = .string s ∧ s.size ≤ maxLen := by
  obtain ⟨s, e, _, hs⟩ := DataW.trod_string Tryz.underlying9 h
  simp at e
  exact ⟨s, e, hs⟩
theorem open_bl {fuel : Nat} {v : Value} {x : DataW H × List MemPlace} (h : DataW.trod enc Tryz.prog w base spare held fuel 4 [v] = some x) : ∃ s : Bool, v = .bool s := by
  obtain ⟨s, e, _⟩ := DataW.trod_bool Tryz.underlying4 h
  simp at e
  exact ⟨s, e⟩

set_option maxRecDepth 100000 in
theorem st_open {fuel : Nat} {cs : List Value} {x : DataW H × List MemPlace} (h : DataW.trod enc Tryz.prog w base spare held fuel 47 cs = some x) :
    ∃ s : BS, cs = [.int .u64 (wdI s 0), .int .u64 (wdI s 1), .int .u64 (wdI s 2), .int .u64 (wdI s 3)] := by
  obtain ⟨_, _, _, _, hl, _⟩ := DataW.trod_array Tryz.underlying47 h
  rw [cellsOf47] at hl
  match cs, hl with
  | [a, b, c, d], _ =>
    obtain ⟨_, _, _, _, n, _, h0, h1, h2, h3⟩ := trod_array4 Tryz.underlying47 cellsOf45 h
    obtain ⟨a, rfl, ra⟩ := open_u64 h0
    obtain ⟨b, rfl, rb⟩ := open_u64 h1
    obtain ⟨c, rfl, rc⟩ := open_u64 h2
    obtain ⟨d, rfl, rd⟩ := open_u64 h3
    obtain ⟨s, rfl, rfl, rfl, rfl⟩ := set_of_words a b c d ra rb rc rd
    exact ⟨s, rfl⟩

theorem row_open {α : Type} [Inhabited α] {T E k : Nat} {cs : α → Array Value} {G : α → Prop} {GW : World → α → Prop} (hT : Tryz.prog.underlying T = some (.slice E)) (hk : Tryz.prog.cellsOf E = k) (hk0 : 0 < k) (hcs : ∀ x, (cs x).size = k) {fuel : Nat} {a : Option Addr} {len cap : Nat} {x : DataW H × List MemPlace}
    (h : DataW.trod enc Tryz.prog w base spare held fuel T [.slice a len cap] = some x) (hG : ∀ y, G y → GW w y) (ho : ∀ (n : Nat) (c : List Value) (y : DataW H × List MemPlace), n < fuel → DataW.trod enc Tryz.prog w base spare held n E c = some y → ∃ z : α, c = (cs z).toList ∧ G z) :
    ∃ d : List α, d.length = len ∧ RowOf k cs GW w a d ∧ (∀ y ∈ d, G y) ∧ len ≤ cap ∧ cap ≤ maxLen ∧ (a = none → cap = 0) := by
  rcases DataW.trod_slice hT h with ⟨h0, _⟩ | ⟨a', len', cap', elems, rest, n, hn, hcs', _, hb, hl, hm, hlen, hel, _, _⟩
  · simp at h0
    obtain ⟨rfl, rfl, rfl⟩ := h0
    exact ⟨[], rfl, RowOf.nil _, fun x hx => by simp at hx, Nat.le_refl _, by unfold maxLen; omega, fun _ => rfl⟩
  · simp at hcs'
    obtain ⟨rfl, rfl, rfl⟩ := hcs'
    have hall : ∀ i, i < len → ∃ y : α, (∀ j v, j < k → (cs y).toList[j]? = some v → w.cell? ((a'.add (i * k)).add j) = some v) ∧ G y := by
      intro i hi
      have he := hel i hi
      rw [List.getElem?_eq_getElem (by omega), hk] at he
      cases hc : w.cells? base (a'.add (i * k)) k with
      | none => rw [hc] at he; cases he
      | some c =>
        rw [hc] at he
        obtain ⟨y, rfl, hy⟩ := ho n c _ (by omega) he
        exact ⟨y, fun j v hj hv => cells_ix hc j v hj hv, hy⟩
    obtain ⟨f, hf⟩ := choose_lt hall
    have hget : ∀ i x, ((List.range len).map f)[i]? = some x → i < len ∧ f i = x := by
      intro i x hx
      have hi : i < len := by
        have := (List.getElem?_eq_some_iff.1 hx).1
        simpa using this
      rw [List.getElem?_map, List.getElem?_range hi] at hx
      exact ⟨hi, by simpa using hx⟩
    refine ⟨(List.range len).map f, by simp, ?_, ?_, hl, hm, fun e => by cases e⟩
    · intro i x hx
      obtain ⟨hi, hx'⟩ := hget i x hx
      have q := (hf i hi).1
      rw [hx'] at q
      have hspot : a'.spot = none := by
        have hz : 0 < (cs (f 0)).toList.length := by rw [Array.length_toList, hcs]; exact hk0
        have h0 := (hf 0 (by omega)).1 0 _ hk0 (List.getElem?_eq_getElem hz)
        rw [Nat.zero_mul] at h0
        have e0 : (a'.add 0).add 0 = a' := rfl
        rw [e0] at h0
        exact World.cell?_spot h0
      obtain ⟨b, off, spot⟩ := a'
      simp only at hspot
      subst hspot
      have hc : CellsAt w b (off + i * k) (cs x) := fun j v hv => by
        have hj : j < k := by
          have := (Array.getElem?_eq_some_iff.1 hv).1
          rw [hcs] at this; exact this
        have h := q j v hj (by rw [Array.getElem?_toList]; exact hv)
        rw [add_off, add_off] at h
        exact h
      refine ⟨b, off, rfl, hc.lt (by rw [hcs]; exact hk0), hc, hG x ?_⟩
      rw [← hx']
      exact (hf i hi).2
    · intro x hx
      obtain ⟨i, hi⟩ := List.mem_iff_getElem?.1 hx
      obtain ⟨hi', rfl⟩ := hget i x hi
      exact (hf i hi').2

def ASym (s : SymM) : Prop := I64 s.kind ∧ I64 s.sort
structure AProd (w : World) (p : ProdM) : Prop where
  inn : ProdIn w p
  left : I64 p.left
  role : I64 p.role
  frm : I64 p.frm
  cons : p.cons.size ≤ maxLen
  syms : ∀ s, s ∈ p.right → ASym s
  len : p.right.length ≤ p.rc
  cap : p.rc ≤ maxLen
  nil : p.ra = none → p.rc = 0
structure AGram (w : World) (g : GramM) : Prop where
  inn : GIn w g
  start : I64 g.start
  names : ∀ s, s ∈ g.sorts → s.size ≤ maxLen
  prods : ∀ p, p ∈ g.prods → AProd w p
  forb : ∀ f, f ∈ g.forbid → FitF f
  fol : ∀ f, f ∈ g.follow → I64 f.sort
  sl : g.sorts.length ≤ g.sc
  sc : g.sc ≤ maxLen
  sn : g.sa = none → g.sc = 0
  pl : g.prods.length ≤ g.pc
  pc : g.pc ≤ maxLen
  pn : g.pa = none → g.pc = 0
  fl : g.forbid.length ≤ g.fc
  fc : g.fc ≤ maxLen
  fn : g.fa = none → g.fc = 0
  wl : g.follow.length ≤ g.wc
  wc : g.wc ≤ maxLen
  wn : g.wa = none → g.wc = 0

instance : Inhabited SymM := ⟨⟨0, 0#256, 0⟩⟩
instance : Inhabited ProdM := ⟨⟨0, none, 0, [], ⟨#[]⟩, 0, false, false, 0⟩⟩
instance : Inhabited ForM := ⟨⟨0, 0, 0⟩⟩
instance : Inhabited FolM := ⟨⟨0, 0#256⟩⟩
instance : Inhabited TreeM := ⟨.node 0 0 none 0 []⟩

set_option maxRecDepth 100000 in
theorem sym_open {fuel : Nat} {cs : List Value} {x : DataW H × List MemPlace} (h : DataW.trod enc Tryz.prog w base spare held fuel 60 cs = some x) : ∃ y : SymM, cs = (symC y).toList ∧ ASym y := by
  obtain ⟨n, _, hl, hf⟩ := trod_fields Tryz.underlying60 h
  obtain ⟨_, h0⟩ := hf 0 _ rfl
  obtain ⟨_, h1⟩ := hf 1 _ rfl
  obtain ⟨_, h2⟩ := hf 2 _ rfl
  rw [cellsOf60] at hl
  match cs, hl with
  | [a, b0, b1, b2, b3, c], _ =>
    simp only [cellsOf3, cellsOf58, cellsOf47, List.drop_zero, List.take_succ_cons, List.take_zero, List.drop_succ_cons] at h0 h1 h2
    obtain ⟨kd, rfl, r0⟩ := open_i64 Tryz.underlying58 h0
    obtain ⟨st, hst⟩ := st_open h1
    simp at hst
    obtain ⟨rfl, rfl, rfl, rfl⟩ := hst
    obtain ⟨so, rfl, r2⟩ := open_i64 Tryz.underlying3 h2
    exact ⟨⟨kd, st, so⟩, rfl, r0, r2⟩
set_option maxRecDepth 100000 in
theorem for_open {fuel : Nat} {cs : List Value} {x : DataW H × List MemPlace} (h : DataW.trod enc Tryz.prog w base spare held fuel 85 cs = some x) : ∃ y : ForM, cs = (forC y).toList ∧ FitF y := by
  obtain ⟨n, _, hl, hf⟩ := trod_fields Tryz.underlying85 h
  obtain ⟨_, h0⟩ := hf 0 _ rfl
  obtain ⟨_, h1⟩ := hf 1 _ rfl
  obtain ⟨_, h2⟩ := hf 2 _ rfl
  rw [cellsOf85] at hl
  match cs, hl with
  | [a, b, c], _ =>
    simp only [cellsOf3, List.drop_zero, List.take_succ_cons, List.take_zero, List.drop_succ_cons] at h0 h1 h2
    obtain ⟨x0, rfl, r0⟩ := open_i64 Tryz.underlying3 h0
    obtain ⟨x1, rfl, r1⟩ := open_i64 Tryz.underlying3 h1
    obtain ⟨x2, rfl, r2⟩ := open_i64 Tryz.underlying3 h2
    exact ⟨⟨x0, x1, x2⟩, rfl, ⟨r0, r1, r2⟩⟩
set_option maxRecDepth 100000 in
theorem fol_open {fuel : Nat} {cs : List Value} {x : DataW H × List MemPlace} (h : DataW.trod enc Tryz.prog w base spare held fuel 87 cs = some x) : ∃ y : FolM, cs = (folC y).toList ∧ I64 y.sort := by
  obtain ⟨n, _, hl, hf⟩ := trod_fields Tryz.underlying87 h
  obtain ⟨_, h0⟩ := hf 0 _ rfl
  obtain ⟨_, h1⟩ := hf 1 _ rfl
  rw [cellsOf87] at hl
  match cs, hl with
  | [a, b0, b1, b2, b3], _ =>
    simp only [cellsOf3, cellsOf47, List.drop_zero, List.take_succ_cons, List.take_zero, List.drop_succ_cons] at h0 h1
    obtain ⟨so, rfl, r0⟩ := open_i64 Tryz.underlying3 h0
    obtain ⟨st, hst⟩ := st_open h1
    simp at hst
    obtain ⟨rfl, rfl, rfl, rfl⟩ := hst
    exact ⟨⟨so, st⟩, rfl, r0⟩
theorem name_open {fuel : Nat} {cs : List Value} {x : DataW H × List MemPlace} (h : DataW.trod enc Tryz.prog w base spare held fuel 9 cs = some x) : ∃ y : ByteArray, cs = (strC y).toList ∧ y.size ≤ maxLen := by
  obtain ⟨s, e, _, hs⟩ := DataW.trod_string Tryz.underlying9 h
  exact ⟨s, e, hs⟩
set_option maxRecDepth 100000 in
theorem prod_open {fuel : Nat} {cs : List Value} {x : DataW H × List MemPlace} (h : DataW.trod enc Tryz.prog w base spare held fuel 65 cs = some x) : ∃ y : ProdM, cs = (prodC y).toList ∧ AProd w y := by
  obtain ⟨n, _, hl, hf⟩ := trod_fields Tryz.underlying65 h
  obtain ⟨_, h0⟩ := hf 0 _ rfl
  obtain ⟨_, h1⟩ := hf 1 _ rfl
  obtain ⟨_, h2⟩ := hf 2 _ rfl
  obtain ⟨_, h3⟩ := hf 3 _ rfl
  obtain ⟨_, h4⟩ := hf 4 _ rfl
  obtain ⟨_, h5⟩ := hf 5 _ rfl
  obtain ⟨_, h6⟩ := hf 6 _ rfl
  rw [cellsOf65] at hl
  match cs, hl with
  | [a, b, c, d, e, f, g], _ =>
    simp only [cellsOf3, cellsOf4, cellsOf9, cellsOf62, cellsOf63, List.drop_zero, List.take_succ_cons, List.take_zero, List.drop_succ_cons] at h0 h1 h2 h3 h4 h5 h6
    obtain ⟨x0, rfl, r0⟩ := open_i64 Tryz.underlying3 h0
    obtain ⟨ra, len, rc, rfl⟩ : ∃ ra len rc, b = .slice ra len rc := by
      rcases DataW.trod_slice Tryz.underlying62 h1 with ⟨e0, _⟩ | ⟨_, _, _, _, _, _, _, e0, _⟩
      · simp at e0; exact ⟨_, _, _, e0⟩
      · simp at e0; exact ⟨_, _, _, e0⟩
    obtain ⟨dd, rfl, q1, q2, q3, q4, q5⟩ := row_open (k := 6) (cs := symC) (G := ASym) (GW := NoG) Tryz.underlying62 cellsOf60 (by omega) (fun _ => rfl) h1 (fun _ _ => trivial) (fun _ _ _ _ h => sym_open h)
    obtain ⟨s, rfl, hs⟩ := open_str h2
    obtain ⟨x3, rfl, r3⟩ := open_i64 Tryz.underlying63 h3
    obtain ⟨x4, rfl⟩ := open_bl h4
    obtain ⟨x5, rfl⟩ := open_bl h5
    obtain ⟨x6, rfl, r6⟩ := open_i64 Tryz.underlying3 h6
    exact ⟨⟨x0, ra, rc, dd, s, x3, x4, x5, x6⟩, rfl, ⟨q1, r0, r3, r6, hs, q2, q3, q4, q5⟩⟩
set_option maxRecDepth 100000 in
theorem gram_open {fuel : Nat} {cs : List Value} {x : DataW H × List MemPlace} (h : DataW.trod enc Tryz.prog w base spare held fuel 27 cs = some x) : ∃ y : GramM, cs = (gramC y).toList ∧ AGram w y := by
  obtain ⟨n, _, hl, hf⟩ := trod_fields Tryz.underlying27 h
  obtain ⟨_, h0⟩ := hf 0 _ rfl
  obtain ⟨_, h1⟩ := hf 1 _ rfl
  obtain ⟨_, h2⟩ := hf 2 _ rfl
  obtain ⟨_, h3⟩ := hf 3 _ rfl
  obtain ⟨_, h4⟩ := hf 4 _ rfl
  rw [cellsOf27] at hl
  match cs, hl with
  | [a, b, c, d, e], _ =>
    simp only [cellsOf3, cellsOf22, cellsOf23, cellsOf24, cellsOf25, List.drop_zero, List.take_succ_cons, List.take_zero, List.drop_succ_cons] at h0 h1 h2 h3 h4
    have sl : ∀ {T E : Nat} {v : Value} {m : Nat} {x : DataW H × List MemPlace}, Tryz.prog.underlying T = some (.slice E) → DataW.trod enc Tryz.prog w base spare held m T [v] = some x → ∃ ra len rc, v = .slice ra len rc := by
      intro T E v m x hT hx
      rcases DataW.trod_slice hT hx with ⟨e0, _⟩ | ⟨_, _, _, _, _, _, _, e0, _⟩
      · simp at e0; exact ⟨_, _, _, e0⟩
      · simp at e0; exact ⟨_, _, _, e0⟩
    obtain ⟨sa, slen, sc, rfl⟩ := sl Tryz.underlying22 h0
    obtain ⟨ds, rfl, s1, s2, s3, s4, s5⟩ := row_open (k := 1) (cs := strC) (G := fun s => s.size ≤ maxLen) (GW := NoG) Tryz.underlying22 cellsOf9 (by omega) (fun _ => rfl) h0 (fun _ _ => trivial) (fun _ _ _ _ h => name_open h)
    obtain ⟨pa, plen, pc, rfl⟩ := sl Tryz.underlying23 h1
    obtain ⟨dp, rfl, p1, p2, p3, p4, p5⟩ := row_open (k := 7) (cs := prodC) (G := AProd w) (GW := ProdIn) Tryz.underlying23 cellsOf65 (by omega) (fun _ => rfl) h1 (fun _ h => h.inn) (fun _ _ _ _ h => prod_open h)
    obtain ⟨st, rfl, r2⟩ := open_i64 Tryz.underlying3 h2
    obtain ⟨fa, flen, fc, rfl⟩ := sl Tryz.underlying24 h3
    obtain ⟨df, rfl, f1, f2, f3, f4, f5⟩ := row_open (k := 3) (cs := forC) (G := FitF) (GW := NoG) Tryz.underlying24 cellsOf85 (by omega) (fun _ => rfl) h3 (fun _ _ => trivial) (fun _ _ _ _ h => for_open h)
    obtain ⟨wa, wlen, wc, rfl⟩ := sl Tryz.underlying25 h4
    obtain ⟨dw, rfl, w1, w2, w3, w4, w5⟩ := row_open (k := 5) (cs := folC) (G := fun f => I64 f.sort) (GW := NoG) Tryz.underlying25 cellsOf87 (by omega) (fun _ => rfl) h4 (fun _ _ => trivial) (fun _ _ _ _ h => fol_open h)
    exact ⟨⟨sa, sc, ds, pa, pc, dp, st, fa, fc, df, wa, wc, dw⟩, rfl, ⟨⟨s1, p1, f1, w1⟩, r2, s2, p2, f2, w2, s3, s4, s5, p3, p4, p5, f3, f4, f5, w3, w4, w5⟩⟩

def ATree (w : World) : Nat → TreeM → Prop
  | 0, _ => True
  | d + 1, .node p b ka kc kids => I64 p ∧ (0 ≤ b ∧ b < 256) ∧ kids.length ≤ kc ∧ kc ≤ maxLen ∧ (ka = none → kc = 0) ∧ ∀ k, k ∈ kids → ATree w d k
end Go.Proofs.YtodnlcbnbkkanaaGreatDoor
end
section
namespace Go.Proofs.YtodnlcbnbkkanaaGreatDoor
open Go Go.RowKit

def vastP (p : ProdM) : Bool := decide (40 < p.right.length) || decide (1500 < p.cons.size)
def vastB (g : GramM) : Bool := decide (40 < g.sorts.length) || (decide (60 < g.prods.length) || (decide (40 < g.forbid.length) || (decide (40 < g.follow.length) || (g.sorts.any (fun s => decide (1500 < s.size)) || g.prods.any vastP))))

theorem any_yes {α : Type} {p : α → Bool} {l : List α} {i : Nat} {x : α} (h : l[i]? = some x) (hp : p x = true) : l.any p = true := List.any_eq_true.2 ⟨x, List.mem_of_getElem? h, hp⟩
theorem any_no {α : Type} {p : α → Bool} {l : List α} (h : ∀ (i : Nat) (x : α), l[i]? = some x → p x = false) : l.any p = false := by
  rw [List.any_eq_false]
  intro x hx
  obtain ⟨i, hi⟩ := List.mem_iff_getElem?.1 hx
  simp [h i x hi]
end Go.Proofs.YtodnlcbnbkkanaaGreatDoor
end
section
namespace Go.Proofs.YtodnlcbnbkkanaaGreatDoor
open Go Go.RowKit

def symBad (n : Int) (role : Int) (s : SymM) : Bool := if s.kind = 0 then s.set == 0#256 || !(s.sort == 0) else if s.kind = 1 then !(s.set == 0#256) || (!(numB s.sort n) || role == 11) else true
def rfirstB (n : Int) (x : ProdM) : Bool := !(numB x.left n) || (decide (30 < x.right.length) || (decide (x.role < 0) || (decide (11 < x.role) || (decide (x.frm < -1) || (decide (64 < x.cons.size) || ((!x.cons.toList.isEmpty && !(x.role == 0)) || (x.prefer && x.avoid)))))))
def rprodB (n : Int) (x : ProdM) : Bool := !(rfirstB n x) && x.right.all fun s => !(symBad n x.role s)

structure TwoG (w wr : World) (x : Array Value) (t : Nat) (y : Array Value) : Prop where
  b0 : Blk wr w.heap.size 27 x
  b1 : Blk wr (w.heap.size + 1) t y
  bl : Below w.heap.size w wr
theorem cells6 {W : World} {B t : Nat} {a b c d e f : Value} (h : Blk W B t #[a, b, c, d, e, f]) : W.cell? ⟨B, 0, none⟩ = some a ∧ W.cell? ⟨B, 1, none⟩ = some b ∧ W.cell? ⟨B, 2, none⟩ = some c ∧ W.cell? ⟨B, 3, none⟩ = some d ∧ W.cell? ⟨B, 4, none⟩ = some e ∧ W.cell? ⟨B, 5, none⟩ = some f :=
  ⟨h.cell 0, h.cell 1, h.cell 2, h.cell 3, h.cell 4, h.cell 5⟩

end Go.Proofs.YtodnlcbnbkkanaaGreatDoor
end
section
namespace Go.Proofs.YtodnlcbnbkkanaaGreatDoor
open Go Go.RowKit

theorem set_same {L : List Bool} {i : Nat} (h : L[i]? = some true) : L.set i true = L := by
  apply List.ext_getElem?
  intro k
  rw [List.getElem?_set]
  split
  · next e => subst e; rw [h]; have := (List.getElem?_eq_some_iff.1 h).1; simp [this]
  · rfl
def RoundP (g : GramM) (r : Nat) (L0 : List Bool) (j : Nat) (L : List Bool) : Prop :=
  (L = L0 ∧ (∀ (i : Nat) (x : ProdM), i < j → g.prods[i]? = some x → okP L0 x = true → lv L0 x.left = true) ∧ (Closed g L0 ∨ r + L0.count false ≤ g.sorts.length)) ∨ r + 1 + L.count false ≤ g.sorts.length
structure PJ (g : GramM) (w wr : World) (L : List Bool) : Prop where
  b0 : Blk wr w.heap.size 27 (gramC g)
  b1 : Blk wr (w.heap.size + 1) 4 (bools L)
  b : Below w.heap.size w wr
  len : L.length = g.sorts.length
  sound : Sound g L
end Go.Proofs.YtodnlcbnbkkanaaGreatDoor
end
section
namespace Go.Proofs.YtodnlcbnbkkanaaGreatDoor
open Go Go.RowKit

end Go.Proofs.YtodnlcbnbkkanaaGreatDoor
end
section
namespace Go.Proofs.YtodnlcbnbkkanaaGreatDoor
open Go Go.RowKit

def useB (u : Bool) (L : List Bool) (x : ProdM) : Bool := !(x.role == 11) && (!u || okP L x)
def EdgeU (g : GramM) (u : Bool) (L : List Bool) (k t : Nat) : Prop := ∃ x, x ∈ g.prods ∧ x.left = k ∧ useB u L x = true ∧ ∃ s, s ∈ x.right ∧ s.kind = 1 ∧ s.sort = t
inductive RU (g : GramM) (u : Bool) (L : List Bool) (j : Nat) : Nat → Prop
  | refl : RU g u L j j
  | step {k t : Nat} : RU g u L j k → EdgeU g u L k t → RU g u L j t
def SoundU (g : GramM) (u : Bool) (L M : List Bool) : Prop := ∀ k : Nat, M[k]? = some true → RU g u L g.start.toNat k
def ClosedU (g : GramM) (u : Bool) (L M : List Bool) : Prop := ∀ x, x ∈ g.prods → useB u L x = true → lv M x.left = true → ∀ s, s ∈ x.right → s.kind = 1 → lv M s.sort = true
def ReachU (g : GramM) (u : Bool) (L R : List Bool) : Prop := R.length = g.sorts.length ∧ ∀ k : Nat, R[k]? = some true ↔ RU g u L g.start.toNat k
def RS (n r : Nat) (C0 : Prop) (M0 : List Bool) (Q : Prop) (M : List Bool) : Prop := (M = M0 ∧ Q ∧ (C0 ∨ r + M0.count false ≤ n)) ∨ r + 1 + M.count false ≤ n
def PQ (g : GramM) (u : Bool) (L M0 : List Bool) (j : Nat) : Prop := ∀ (i : Nat) (x : ProdM), i < j → g.prods[i]? = some x → useB u L x = true → lv M0 x.left = true → ∀ s, s ∈ x.right → s.kind = 1 → lv M0 s.sort = true
def PX (g : GramM) (u : Bool) (L M0 : List Bool) (j : Nat) (x : ProdM) (m : Nat) : Prop := PQ g u L M0 j ∧ ∀ (i : Nat) (s : SymM), i < m → x.right[i]? = some s → s.kind = 1 → lv M0 s.sort = true
structure RJ (g : GramM) (u : Bool) (L : List Bool) (w wr : World) (M : List Bool) : Prop where
  b0 : Blk wr w.heap.size 27 (gramC g)
  b1 : Blk wr (w.heap.size + 1) 4 (bools M)
  b2 : Blk wr (w.heap.size + 1 + 1 + 1) 4 (bools L)
  b : Below w.heap.size w wr
  len : M.length = g.sorts.length
  st : M[g.start.toNat]? = some true
  sound : SoundU g u L M
end Go.Proofs.YtodnlcbnbkkanaaGreatDoor
end
section
namespace Go.Proofs.YtodnlcbnbkkanaaGreatDoor
open Go Go.RowKit

structure MarkAt (Bx Bm : Nat) (M : List Bool) (W : World) : Prop where
  bx : Blk W Bx 31 #[.slice (some ⟨Bm, 0, none⟩) M.length M.length]
  bm : Blk W Bm 4 (bools M)
theorem MarkAt.below {Bx Bm : Nat} {M : List Bool} {W V : World} {N : Nat} (h : MarkAt Bx Bm M W) (hB : Below N W V) (h1 : Bx < N) (h2 : Bm < N) : MarkAt Bx Bm M V := ⟨h.bx.below hB h1, h.bm.below hB h2⟩
theorem MarkAt.set {Bx Bm : Nat} {M : List Bool} {W : World} (h : MarkAt Bx Bm M W) (hne : Bx ≠ Bm) (k : Nat) : MarkAt Bx Bm (M.set k true) (W.setCell ⟨Bm, k, none⟩ (.bool true)) :=
  ⟨by rw [List.length_set]; exact h.bx.other hne _, by rw [← bools_set]; exact h.bm.set k _⟩
theorem MarkAt.lt {Bx Bm : Nat} {M : List Bool} {W : World} (h : MarkAt Bx Bm M W) : Bx < W.heap.size ∧ Bm < W.heap.size := ⟨h.bx.lt, h.bm.lt⟩

def MarkPost (w : World) (Bm k : Nat) (r v : Bool) (e : Ending) (w' : World) : Prop := ∃ w3, Below w.heap.size w w3 ∧ e = .returned (.bool (!r && !v)) ∧ w' = if r then w3 else w3.setCell ⟨Bm, k, none⟩ (.bool true)
def lacksQ (M : List Bool) (s : SymM) : Bool := s.kind == 1 && !lv M s.sort
def filledQ (M : List Bool) (s : SymM) : Bool := s.kind == 0 || !lv M s.sort

set_option maxRecDepth 100000 in
set_option maxHeartbeats 1000000 in
theorem f71_any (s : SymM) (Bx Bm : Nat) (M : List Bool) (w : World) (h : MarkAt Bx Bm M w) (hM : M.length ≤ 1000) (hs : s.kind = 1 → ∃ k : Nat, s.sort = k ∧ k < M.length) :
    Calls Tryz.prog 71 #[symV s, .pointer (some ⟨Bx, 0, none⟩)] w fun e w' => e = .returned (.bool (lacksQ M s)) ∧ Below w.heap.size w w' := by
  have hB : Hid (Below w.heap.size w (w.alloc (.cells (symC s) 60))) := (Below.refl _ _).alloc (Nat.le_refl _) _
  have cx := h.bx.cell 0
  have lx := h.bx.lt
  have lm := h.bm.lt
  have HS := Lib.hid hs
  have HC := Lib.hid h
  obtain ⟨sk, ss, so⟩ := s
  unfold symV symC lacksQ at *
  dsimp only at *
  clear h hs
  obtain ⟨n, hn⟩ : ∃ n, n = M.length := ⟨_, rfl⟩
  rw [← hn] at cx hM
  have HN := Lib.hid hn
  clear hn
  cases k1 : (sk == 1) with
  | false =>
    clear HS
    go_enter Tryz.func71, Tryz.ntmps71
    go_wp2
    go_ret
    exact ⟨rfl, hB.out⟩
  | true =>
    obtain ⟨j, rfl, hj⟩ := HS.out (by simpa using k1)
    have y0 := HC.out.bm.cell j
    rw [bools_at M j hj] at y0
    obtain ⟨v, hv⟩ : ∃ v, v = lv M (j : Int) := ⟨_, rfl⟩
    rw [← hv] at y0 ⊢
    have z3 : (j : Int) < (n : Int) := by have := HN.out; omega
    have z4 : (0 : Int) ≤ (j : Int) := by omega
    clear hv hj HS HC
    go_enter Tryz.func71, Tryz.ntmps71
    go_wp2
    go_ret
    exact ⟨by cases v <;> rfl, hB.out⟩

set_option maxRecDepth 100000 in
set_option maxHeartbeats 1000000 in
theorem f111_any (s : SymM) (Bx Bm : Nat) (M : List Bool) (w : World) (h : MarkAt Bx Bm M w) (hM : M.length ≤ 1000) (hs : s.kind = 1 → ∃ k : Nat, s.sort = k ∧ k < M.length) :
    Calls Tryz.prog 111 #[symV s, .pointer (some ⟨Bx, 0, none⟩)] w fun e w' => e = .returned (.bool (lacksQ M s)) ∧ Below w.heap.size w w' := by
  have hB : Hid (Below w.heap.size w (w.alloc (.cells (symC s) 60))) := (Below.refl _ _).alloc (Nat.le_refl _) _
  have cx := h.bx.cell 0
  have lx := h.bx.lt
  have lm := h.bm.lt
  have HS := Lib.hid hs
  have HC := Lib.hid h
  obtain ⟨sk, ss, so⟩ := s
  unfold symV symC lacksQ at *
  dsimp only at *
  clear h hs
  obtain ⟨n, hn⟩ : ∃ n, n = M.length := ⟨_, rfl⟩
  rw [← hn] at cx hM
  have HN := Lib.hid hn
  clear hn
  cases k1 : (sk == 1) with
  | false =>
    clear HS
    go_enter Tryz.func111, Tryz.ntmps111
    go_wp2
    go_ret
    exact ⟨rfl, hB.out⟩
  | true =>
    obtain ⟨j, rfl, hj⟩ := HS.out (by simpa using k1)
    have y0 := HC.out.bm.cell j
    rw [bools_at M j hj] at y0
    obtain ⟨v, hv⟩ : ∃ v, v = lv M (j : Int) := ⟨_, rfl⟩
    rw [← hv] at y0 ⊢
    have z3 : (j : Int) < (n : Int) := by have := HN.out; omega
    have z4 : (0 : Int) ≤ (j : Int) := by omega
    clear hv hj HS HC
    go_enter Tryz.func111, Tryz.ntmps111
    go_wp2
    go_ret
    exact ⟨by cases v <;> rfl, hB.out⟩

set_option maxRecDepth 100000 in
set_option maxHeartbeats 1000000 in
theorem f75n_any (s : SymM) (Bx Bm : Nat) (M : List Bool) (w : World) (h : MarkAt Bx Bm M w) (hM : M.length ≤ 1000) (hs : s.kind ≠ 0 → ∃ k : Nat, s.sort = k ∧ k < M.length) :
    Calls Tryz.prog 75 #[symV s, .pointer (some ⟨Bx, 0, none⟩)] w fun e w' => e = .returned (.bool (filledQ M s)) ∧ Below w.heap.size w w' := by
  have hB : Hid (Below w.heap.size w (w.alloc (.cells (symC s) 60))) := (Below.refl _ _).alloc (Nat.le_refl _) _
  have cx := h.bx.cell 0
  have lx := h.bx.lt
  have lm := h.bm.lt
  have HS := Lib.hid hs
  have HC := Lib.hid h
  obtain ⟨sk, ss, so⟩ := s
  unfold symV symC filledQ at *
  dsimp only at *
  clear h hs
  obtain ⟨n, hn⟩ : ∃ n, n = M.length := ⟨_, rfl⟩
  rw [← hn] at cx hM
  have HN := Lib.hid hn
  clear hn
  cases k1 : (sk == 0) with
  | true =>
    clear HS
    go_enter Tryz.func75, Tryz.ntmps75
    go_wp2
    go_ret
    exact ⟨rfl, hB.out⟩
  | false =>
    obtain ⟨j, rfl, hj⟩ := HS.out (by simpa using k1)
    have y0 := HC.out.bm.cell j
    rw [bools_at M j hj] at y0
    obtain ⟨v, hv⟩ : ∃ v, v = lv M (j : Int) := ⟨_, rfl⟩
    rw [← hv] at y0 ⊢
    have z3 : (j : Int) < (n : Int) := by have := HN.out; omega
    have z4 : (0 : Int) ≤ (j : Int) := by omega
    clear hv hj HS HC
    go_enter Tryz.func75, Tryz.ntmps75
    go_wp2
    go_ret
    exact ⟨by cases v <;> rfl, hB.out⟩

set_option maxRecDepth 100000 in
set_option maxHeartbeats 2000000 in
theorem f69_any (x : ProdM) (Bx Bm : Nat) (M : List Bool) (w : World) (h : MarkAt Bx Bm M w) (hM : M.length ≤ 1000) (hx : ProdIn w x) (hr : x.right.length ≤ 30) (hs : ∀ s, s ∈ x.right → s.kind = 1 → ∃ k : Nat, s.sort = k ∧ k < M.length) (k : Nat) (hk : x.left = k) (hkl : k < M.length) :
    Calls Tryz.prog 69 #[prodV x, .pointer (some ⟨Bx, 0, none⟩)] w (MarkPost w Bm k (x.right.any (lacksQ M)) (lv M k)) := by
  have hB1 : Below w.heap.size w (w.alloc (.cells (prodC x) 65)) := (Below.refl _ _).alloc (Nat.le_refl _) _
  obtain ⟨l1, l2⟩ := h.lt
  have HC := Lib.hid (containsSym_any x.ra x.rc x.right (lacksQ M) 71 #[.pointer (some ⟨Bx, 0, none⟩)] (fun _ _ => by kernel_rfl) _ (hx.below hB1) (Nat.le_trans hr (by omega)) (fun s hsx W hW =>
    f71_any s Bx Bm M W ((h.below hB1 l1 l2).below hW (Nat.lt_of_lt_of_le l1 hB1.size) (Nat.lt_of_lt_of_le l2 hB1.size)) hM (hs s hsx)))
  have HB := Lib.hid hB1
  have HM := Lib.hid h
  have HP := Lib.hid (Blk.new w 65 (prodC x))
  have HMk := fun w' (h : Blk w' Bm 4 (bools M)) => mark_any M Bm k M.length M.length w' h hkl (Nat.le_refl _) (Nat.le_trans hM (by omega))
  obtain ⟨n, hn⟩ : ∃ n, n = M.length := ⟨_, rfl⟩
  have HN := Lib.hid hn
  have cx := h.bx.cell 0
  rw [← hn] at cx HMk
  have HMk := Lib.hid HMk
  have HE : Hid (prodC x = #[.int .i64 (k : Int), .slice x.ra x.right.length x.rc, .string x.cons, .int .i64 x.role, .bool x.prefer, .bool x.avoid, .int .i64 x.frm]) := Lib.hid (by rw [← hk]; rfl)
  unfold prodV
  rw [HE.out] at HC HB HP ⊢
  clear hB1 h hx hs hk hn cx hkl hM
  generalize x.right.any (lacksQ M) = r at *
  generalize lv M k = v at *
  go_enter Tryz.func69, Tryz.ntmps69
  go_wp2_with fail
  refine HC.out.mono ?_
  rintro e w3 ⟨rfl, hB3⟩
  have HB3 := Lib.hid (HB.out.trans (hB3.mono HB.out.size))
  have HP3 := Lib.hid (HP.out.below hB3 HP.out.lt)
  have HM3 := Lib.hid (HM.out.below HB3.out l1 l2)
  have cx := HM3.out.bx.cell 0
  rw [← HN.out] at cx
  obtain ⟨c0, c1, c2, c3, c4, c5, c6⟩ := cells7 HP3.out
  have l3 := HP3.out.lt
  have lx := HM3.out.bx.lt
  clear HC hB3 HP
  cases r with
  | true =>
    go_wp2
    go_ret
    exact ⟨w3, HB3.out, by rfl, by rw [if_pos rfl]⟩
  | false =>
    go_wp2_with fail
    refine (HMk.out _ HM3.out.bm).mono ?_
    rintro e w4 ⟨rfl, rfl⟩
    go_wp2
    go_ret
    exact ⟨w3, HB3.out, by rfl, by rw [if_neg (by decide)]⟩

set_option maxRecDepth 100000 in
set_option maxHeartbeats 2000000 in
theorem f74_any (x : ProdM) (Bx Bm : Nat) (M : List Bool) (w : World) (h : MarkAt Bx Bm M w) (hM : M.length ≤ 1000) (hx : ProdIn w x) (hr : x.right.length ≤ 30) (hs : ∀ s, s ∈ x.right → s.kind ≠ 0 → ∃ k : Nat, s.sort = k ∧ k < M.length) (k : Nat) (hk : x.left = k) (hkl : k < M.length) :
    Calls Tryz.prog 74 #[prodV x, .pointer (some ⟨Bx, 0, none⟩)] w (MarkPost w Bm k (x.right.any (filledQ M)) (lv M k)) := by
  have hB1 : Below w.heap.size w (w.alloc (.cells (prodC x) 65)) := (Below.refl _ _).alloc (Nat.le_refl _) _
  obtain ⟨l1, l2⟩ := h.lt
  have HC := Lib.hid (containsSym_any x.ra x.rc x.right (filledQ M) 75 #[.pointer (some ⟨Bx, 0, none⟩)] (fun _ _ => by kernel_rfl) _ (hx.below hB1) (Nat.le_trans hr (by omega)) (fun s hsx W hW =>
    f75n_any s Bx Bm M W ((h.below hB1 l1 l2).below hW (Nat.lt_of_lt_of_le l1 hB1.size) (Nat.lt_of_lt_of_le l2 hB1.size)) hM (hs s hsx)))
  have HB := Lib.hid hB1
  have HM := Lib.hid h
  have HP := Lib.hid (Blk.new w 65 (prodC x))
  have HMk := fun w' (h : Blk w' Bm 4 (bools M)) => mark_any M Bm k M.length M.length w' h hkl (Nat.le_refl _) (Nat.le_trans hM (by omega))
  obtain ⟨n, hn⟩ : ∃ n, n = M.length := ⟨_, rfl⟩
  have HN := Lib.hid hn
  have cx := h.bx.cell 0
  rw [← hn] at cx HMk
  have HMk := Lib.hid HMk
  have HE : Hid (prodC x = #[.int .i64 (k : Int), .slice x.ra x.right.length x.rc, .string x.cons, .int .i64 x.role, .bool x.prefer, .bool x.avoid, .int .i64 x.frm]) := Lib.hid (by rw [← hk]; rfl)
  unfold prodV
  rw [HE.out] at HC HB HP ⊢
  clear hB1 h hx hs hk hn cx hkl hM
  generalize x.right.any (filledQ M) = r at *
  generalize lv M k = v at *
  go_enter Tryz.func74, Tryz.ntmps74
  go_wp2_with fail
  refine HC.out.mono ?_
  rintro e w3 ⟨rfl, hB3⟩
  have HB3 := Lib.hid (HB.out.trans (hB3.mono HB.out.size))
  have HP3 := Lib.hid (HP.out.below hB3 HP.out.lt)
  have HM3 := Lib.hid (HM.out.below HB3.out l1 l2)
  have cx := HM3.out.bx.cell 0
  rw [← HN.out] at cx
  obtain ⟨c0, c1, c2, c3, c4, c5, c6⟩ := cells7 HP3.out
  have l3 := HP3.out.lt
  have lx := HM3.out.bx.lt
  clear HC hB3 HP
  cases r with
  | true =>
    go_wp2
    go_ret
    exact ⟨w3, HB3.out, by rfl, by rw [if_pos rfl]⟩
  | false =>
    go_wp2_with fail
    refine (HMk.out _ HM3.out.bm).mono ?_
    rintro e w4 ⟨rfl, rfl⟩
    go_wp2
    go_ret
    exact ⟨w3, HB3.out, by rfl, by rw [if_neg (by decide)]⟩
end Go.Proofs.YtodnlcbnbkkanaaGreatDoor
end
section
namespace Go.Proofs.YtodnlcbnbkkanaaGreatDoor
open Go Go.RowKit

theorem OwnP.put {N : Nat} {w : World} {a : Option Addr} {c : Nat} {l : List ProdM} (h : OwnP N w a c l) {B k : Nat} (hB : B < N) (v : Value) : OwnP N (w.setCell ⟨B, k, none⟩ v) a c l := by
  refine ⟨?_, h.cap⟩
  rcases h.row with h | ⟨B', cs, h1, h2, hb, hr⟩
  · exact .inl h
  · exact .inr ⟨B', cs, h1, h2, hb.other (by show B' ≠ B; omega) _, hr⟩
structure MJ (g : GramM) (S : List Bool → Prop) (w0 : World) (N Bx Bm : Nat) (a : Option Addr) (c : Nat) (M : List Bool) (W : World) : Prop where
  mark : MarkAt Bx Bm M W
  len : M.length = g.sorts.length
  snd : S M
  low : Below w0.heap.size w0 W
  own : OwnP N W a c (mkL g)
  hx : w0.heap.size ≤ Bx ∧ Bx < N ∧ w0.heap.size ≤ Bm ∧ Bm < N ∧ Bx ≠ Bm
section
variable {g : GramM} {S : List Bool → Prop} {w0 : World} {N Bx Bm : Nat} {a : Option Addr} {c : Nat} {M : List Bool} {W : World}
theorem MJ.below {V : World} (h : MJ g S w0 N Bx Bm a c M W) (hB : Below W.heap.size W V) : MJ g S w0 N Bx Bm a c M V :=
  ⟨h.mark.below hB h.mark.lt.1 h.mark.lt.2, h.len, h.snd, h.low.trans (hB.mono h.low.size), h.own.below hB (Nat.le_refl _), h.hx⟩
theorem MJ.set (h : MJ g S w0 N Bx Bm a c M W) (k : Nat) (hs : S (M.set k true)) : MJ g S w0 N Bx Bm a c (M.set k true) (W.setCell ⟨Bm, k, none⟩ (.bool true)) :=
  ⟨h.mark.set h.hx.2.2.2.2 k, by rw [List.length_set]; exact h.len, hs, h.low.setCell (p := ⟨Bm, k, none⟩) h.hx.2.2.1 _, h.own.put h.hx.2.2.2.1 _, h.hx⟩
theorem MJ.prods (h : MJ g S w0 N Bx Bm a c M W) (hg : GIn w0 g) : RowProd W a (mkL g) := h.own.rowProd fun x hx => (RowOf.mem hg.prods (mkL_mem.1 hx).1).below h.low
end
theorem set_true_same {M : List Bool} {k : Nat} (hk : k < M.length) (h : lv M k = true) : M.set k true = M := by
  refine set_same ?_
  have := lv_true h
  rwa [Int.toNat_natCast] at this
theorem lv_false_at {M : List Bool} {k : Nat} (hk : k < M.length) (h : lv M k = false) : M[k]? = some false := by
  unfold lv at h
  rw [Int.toNat_natCast, List.getD_eq_getElem?_getD, List.getElem?_eq_getElem hk] at h
  rw [List.getElem?_eq_getElem hk]
  simpa using h
theorem marks_steps {g : GramM} (hm : MayB g) {S : List Bool → Prop} {w0 : World} (hg : GIn w0 g) {N Bx Bm : Nat} {a : Option Addr} {c : Nat} {K : Nat} {q : List Bool → SymM → Bool}
    (hK : ∀ (x : ProdM) (M : List Bool) (w : World), x ∈ mkL g → MarkAt Bx Bm M w → M.length = g.sorts.length → ProdIn w x → ∀ k : Nat, x.left = k → k < M.length → Calls Tryz.prog K #[prodV x, .pointer (some ⟨Bx, 0, none⟩)] w (MarkPost w Bm k (x.right.any (q M)) (lv M k)))
    (hS : ∀ (x : ProdM) (M : List Bool), x ∈ mkL g → S M → M.length = g.sorts.length → x.right.any (q M) = false → S (M.set x.left.toNat true)) :
    StepsBy K #[.pointer (some ⟨Bx, 0, none⟩)] (mkL g) (MJ g S w0 N Bx Bm a c) (fun x M => x.right.any (q M) = false → lv M x.left = true) (fun M => M.count false) := by
  intro M W x hx hI
  obtain ⟨k, hk, hkn⟩ := hm.left x (mkL_mem.1 hx).1
  have hkl : k < M.length := by rw [hI.len]; exact hkn
  refine (hK x M W hx hI.mark hI.len ((RowOf.mem hg.prods (mkL_mem.1 hx).1).below hI.low) k hk hkl).mono ?_
  rintro e w' ⟨w3, hB, rfl, hw⟩
  have hI3 := hI.below hB
  cases hr : x.right.any (q M) with
  | true =>
    rw [hr, if_pos rfl] at hw
    subst hw
    exact ⟨_, M, rfl, hI3, fun _ => ⟨rfl, fun h => by rw [hr] at h; cases h⟩, fun h => by simp at h⟩
  | false =>
    rw [hr, if_neg (by decide)] at hw
    subst hw
    have hs : S (M.set k true) := by
      have := hS x M hx hI.snd hI.len hr
      rwa [hk, Int.toNat_natCast] at this
    have hI4 := hI3.set k hs
    cases hv : lv M k with
    | true =>
      have e := set_true_same hkl hv
      rw [e] at hI4
      exact ⟨_, M, rfl, hI4, fun _ => ⟨rfl, fun _ => by rw [hk]; exact hv⟩, fun h => by simp at h⟩
    | false =>
      exact ⟨_, M.set k true, rfl, hI4, fun h => by simp at h, fun _ => count_set (lv_false_at hkl hv)⟩
def MarksPost (w : World) (R : List Bool → Prop) (e : Ending) (w' : World) : Prop := ∃ (M : List Bool) (B : Nat), R M ∧ e = .returned (.slice (some ⟨B, 0, none⟩) M.length M.length) ∧ w.heap.size ≤ B ∧ Blk w' B 4 (bools M) ∧ Below w.heap.size w w'
theorem any_lacks {M : List Bool} {x : ProdM} : x.right.any (lacksQ M) = !(sortsB (lv M) x) := by
  unfold sortsB
  rw [← any_not]
  simp only [Bool.not_not]
  congr 1
  funext s
  unfold lacksQ sortB
  cases (s.kind == 1) <;> simp

theorem productive_any_sound {g : GramM} (_hm : MayB g) {x : ProdM} {M : List Bool} (hx : x ∈ mkL g) (hS : Sound g M) (_ : M.length = g.sorts.length) (hq : x.right.any (lacksQ M) = false) : Sound g (M.set x.left.toNat true) :=
  sound_set hS (mkL_mem.1 hx).1 (by
    unfold okP
    have h1 := (mkL_mem.1 hx).2
    rw [any_lacks] at hq
    have : (x.role == 11) = false := by simpa using h1
    rw [this]
    simpa using hq)
theorem productive_any_start (g : GramM) : Sound g (List.replicate g.sorts.length false) := fun k h => by
  rw [List.getElem?_replicate] at h
  split at h <;> simp at h
theorem productive_any_end {g : GramM} (_hm : MayB g) {M : List Bool} (h1 : M.length = g.sorts.length) (h2 : Sound g M) (h3 : ∀ x, x ∈ mkL g → x.right.any (lacksQ M) = false → lv M x.left = true) : Live g M :=
  live_of h1 h2 fun x hx hok => by
    unfold okP at hok
    simp only [Bool.and_eq_true, Bool.not_eq_true', beq_eq_false_iff_ne] at hok
    exact h3 x (mkL_mem.2 ⟨hx, hok.1⟩) (by rw [any_lacks, hok.2]; rfl)

set_option maxRecDepth 100000 in
set_option maxHeartbeats 4000000 in
theorem productive_any (g : GramM) (hm : MayB g) (hf : Fit g) (w : World) (hg : GIn w g) : Calls Tryz.prog 46 #[gramV g] w (MarksPost w (Live g)) := by
  have hmk := fun w' => make_bools g.sorts.length hm.sorts2 w'
  have hb0 := Blk.new w 27 (gramC g)
  obtain ⟨W1, hW1⟩ : ∃ W1, W1 = ((w.alloc (.cells (gramC g) 27)).alloc (.cells (bools (List.replicate g.sorts.length false)) 4)).alloc (.cells #[.slice (some ⟨w.heap.size + 1, 0, none⟩) g.sorts.length g.sorts.length] 31) := ⟨_, rfl⟩
  have hb1 := Blk.new (w.alloc (.cells (gramC g) 27)) 4 (bools (List.replicate g.sorts.length false))
  have hb2 := Blk.new ((w.alloc (.cells (gramC g) 27)).alloc (.cells (bools (List.replicate g.sorts.length false)) 4)) 31 #[.slice (some ⟨w.heap.size + 1, 0, none⟩) g.sorts.length g.sorts.length]
  simp only [World.size_alloc] at hb1 hb2
  have hs1 : W1.heap.size = w.heap.size + 3 := by rw [hW1]; simp
  have hB1 : Below w.heap.size w W1 := by rw [hW1]; exact (((Below.refl _ w).alloc (Nat.le_refl _) _).alloc (by simp) _).alloc (by simp; omega) _
  have k0 : Blk W1 w.heap.size 27 (gramC g) := by rw [hW1]; exact (hb0.alloc _).alloc _
  have kM : MarkAt (w.heap.size + 1 + 1) (w.heap.size + 1) (List.replicate g.sorts.length false) W1 := by rw [hW1]; exact ⟨by rw [List.length_replicate]; exact hb2, hb1.alloc _⟩
  have HMk := Lib.hid (making_any g hm W1 (hg.below hB1))
  have HSet := Lib.hid (fun (a : Option Addr) (c : Nat) (W : World) (hW : Below W1.heap.size W1 W) (ho : OwnP W1.heap.size W a c (mkL g)) =>
    settle_any (mkL g) a c 69 #[.pointer (some ⟨w.heap.size + 1 + 1, 0, none⟩)] (fun _ _ => by kernel_rfl) (MJ g (Sound g) w W1.heap.size (w.heap.size + 1 + 1) (w.heap.size + 1) a c) _ _ (Nat.le_trans (mkL_len g) (Nat.le_trans hm.prods (by omega)))
      (fun M W h => h.prods hg) (fun M W V h hB => h.below hB) (marks_steps hm hg (fun x M w hx hM hl hi k hk hkl => f69_any x _ _ M w hM (by rw [hl]; exact hm.sorts2) hi (hm.right x (mkL_mem.1 hx).1) (fun s hs hk => by rw [hl]; exact hm.sym x (mkL_mem.1 hx).1 s hs hk) k hk hkl) (fun x M hx hS hl hq => productive_any_sound hm hx hS hl hq)) (List.replicate g.sorts.length false) W
      ⟨kM.below hW (by rw [hs1]; omega) (by rw [hs1]; omega), by simp, productive_any_start g, hB1.trans (hW.mono hB1.size), ho, by omega, by rw [hs1]; omega, by omega, by rw [hs1]; omega, by omega⟩)
  have HEnd : Hid (∀ M, M.length = g.sorts.length → Sound g M → (∀ x, x ∈ mkL g → x.right.any (lacksQ M) = false → lv M x.left = true) → Live g M) := Lib.hid fun M h1 h2 h3 => productive_any_end hm h1 h2 h3
  have HK0 := Lib.hid k0
  have HW1 := Lib.hid hW1
  have HB1 := Lib.hid hB1
  have Hs1 := Lib.hid hs1
  obtain ⟨n, hn⟩ : ∃ n, n = g.sorts.length := ⟨_, rfl⟩
  have N1 := Lib.hid hn
  have hn1 := hm.sorts2
  rw [← hn] at hn1 hmk HW1
  clear hm hf hg hb0 hb1 hb2 k0 kM hB1 hs1 hW1
  unfold gramV gramC at *
  rw [← hn] at HW1 HK0 HMk HEnd ⊢
  clear hn
  obtain ⟨RL, hRL⟩ : ∃ RL : List Bool, RL = List.replicate n false := ⟨_, rfl⟩
  rw [← hRL] at hmk HW1
  clear hRL
  go_enter Tryz.func46, Tryz.ntmps46
  go_wp2_with fail
  rw [← HW1.out]
  refine HMk.out.mono ?_
  rintro e w3 ⟨a, c, rfl, hO, hB3⟩
  have HC := Lib.hid (HSet.out a c w3 hB3 hO)
  clear hO hB3 HSet HMk
  go_wp2_with fail
  refine HC.out.mono ?_
  rintro e w4 ⟨rfl, M, hJ, hq⟩
  have HR := Lib.hid (HEnd.out M (by rw [hJ.len, N1.out]) hJ.snd hq)
  have HJ := Lib.hid hJ
  have cx := hJ.mark.bx.cell 0
  have lx := hJ.mark.bx.lt
  clear hJ hq HC HEnd
  go_wp2
  go_ret
  exact ⟨M, w.heap.size + 1, HR.out, rfl, by omega, HJ.out.mark.bm, HJ.out.low⟩

def SoundE (g : GramM) (M : List Bool) : Prop := ∀ k : Nat, M[k]? = some true → TX g k []
def NullP (g : GramM) (M : List Bool) : Prop := M.length = g.sorts.length ∧ ∀ k : Nat, M[k]? = some true ↔ TX g k []
theorem NullP.unique {g : GramM} {L L' : List Bool} (h : NullP g L) (h' : NullP g L') : L = L' := by
  refine List.ext_getElem (h.1.trans h'.1.symm) fun k h1 h2 => ?_
  have a := (h.2 k).trans (h'.2 k).symm
  rw [List.getElem?_eq_getElem h1, List.getElem?_eq_getElem h2] at a
  simp only [Option.some.injEq] at a
  exact Bool.eq_iff_iff.2 a
theorem kind_one {g : GramM} (hm : MayB g) {x : ProdM} (hx : x ∈ g.prods) {s : SymM} (hs : s ∈ x.right) (h : s.kind ≠ 0) : s.kind = 1 := (hm.kind x hx s hs).resolve_left h
theorem filled_txs {g : GramM} {M : List Bool} (hS : SoundE g M) : ∀ (l : List SymM), (∀ s, s ∈ l → s.kind = 0 ∨ s.kind = 1) → l.any (filledQ M) = false → TXs (TX g) l [] := by
  intro l
  induction l with
  | nil => intro _ _; rfl
  | cons s r ih =>
    intro hk h
    rw [List.any_cons, Bool.or_eq_false_iff] at h
    refine ⟨[], [], rfl, ?_, ih (fun s hs => hk s (by simp [hs])) h.2⟩
    have h1 := h.1
    unfold filledQ at h1
    rw [Bool.or_eq_false_iff] at h1
    have h0 : s.kind ≠ 0 := by simpa using h1.1
    exact .inl ⟨(hk s (by simp)).resolve_left h0, hS _ (lv_true (by simpa using h1.2))⟩
theorem nullable_any_sound {g : GramM} (hm : MayB g) {x : ProdM} {M : List Bool} (hx : x ∈ mkL g) (hS : SoundE g M) (_ : M.length = g.sorts.length) (hq : x.right.any (filledQ M) = false) : SoundE g (M.set x.left.toNat true) := fun k hk => by
  rw [List.getElem?_set] at hk
  split at hk
  · next e =>
    subst e
    exact TX.mk (mkL_mem.1 hx).1 (mkL_mem.1 hx).2 (filled_txs hS _ (hm.kind x (mkL_mem.1 hx).1) hq)
  · exact hS k hk
theorem nullable_any_start (g : GramM) : SoundE g (List.replicate g.sorts.length false) := fun k h => by
  rw [List.getElem?_replicate] at h
  split at h <;> simp at h
theorem txs_nil {T : Nat → List UInt8 → Prop} : ∀ {l : List SymM}, TXs T l [] → ∀ s, s ∈ l → s.kind = 1 ∧ T s.sort.toNat [] := by
  intro l
  induction l with
  | nil => intro _ s hs; cases hs
  | cons y r ih =>
    rintro ⟨a, b, e, h1, h2⟩ s hs
    obtain ⟨rfl, rfl⟩ : a = [] ∧ b = [] := by simpa using e.symm
    rcases List.mem_cons.1 hs with rfl | hs
    · rcases h1 with h1 | ⟨_, b, h1, _⟩
      · exact h1
      · cases h1
    · exact ih h2 s hs
theorem nullable_any_end {g : GramM} (_hm : MayB g) {M : List Bool} (h1 : M.length = g.sorts.length) (h2 : SoundE g M) (h3 : ∀ x, x ∈ mkL g → x.right.any (filledQ M) = false → lv M x.left = true) : NullP g M := by
  refine ⟨h1, fun k => ⟨h2 k, fun hk => ?_⟩⟩
  refine TX.ind (P := fun k t => t = [] → M[k]? = some true) (fun x t hx hr _ h e => ?_) hk rfl
  subst e
  refine lv_true (h3 x (mkL_mem.2 ⟨hx, hr⟩) ?_)
  rw [List.any_eq_false]
  intro s hs hf
  obtain ⟨hk, h⟩ := txs_nil h s hs
  unfold filledQ at hf
  rw [hk, lv_some (h rfl)] at hf
  simp at hf

set_option maxRecDepth 100000 in
set_option maxHeartbeats 4000000 in
theorem nullable_any (g : GramM) (hm : MayB g) (hf : Fit g) (w : World) (hg : GIn w g) : Calls Tryz.prog 48 #[gramV g] w (MarksPost w (NullP g)) := by
  have hmk := fun w' => make_bools g.sorts.length hm.sorts2 w'
  have hb0 := Blk.new w 27 (gramC g)
  obtain ⟨W1, hW1⟩ : ∃ W1, W1 = ((w.alloc (.cells (gramC g) 27)).alloc (.cells (bools (List.replicate g.sorts.length false)) 4)).alloc (.cells #[.slice (some ⟨w.heap.size + 1, 0, none⟩) g.sorts.length g.sorts.length] 31) := ⟨_, rfl⟩
  have hb1 := Blk.new (w.alloc (.cells (gramC g) 27)) 4 (bools (List.replicate g.sorts.length false))
  have hb2 := Blk.new ((w.alloc (.cells (gramC g) 27)).alloc (.cells (bools (List.replicate g.sorts.length false)) 4)) 31 #[.slice (some ⟨w.heap.size + 1, 0, none⟩) g.sorts.length g.sorts.length]
  simp only [World.size_alloc] at hb1 hb2
  have hs1 : W1.heap.size = w.heap.size + 3 := by rw [hW1]; simp
  have hB1 : Below w.heap.size w W1 := by rw [hW1]; exact (((Below.refl _ w).alloc (Nat.le_refl _) _).alloc (by simp) _).alloc (by simp; omega) _
  have k0 : Blk W1 w.heap.size 27 (gramC g) := by rw [hW1]; exact (hb0.alloc _).alloc _
  have kM : MarkAt (w.heap.size + 1 + 1) (w.heap.size + 1) (List.replicate g.sorts.length false) W1 := by rw [hW1]; exact ⟨by rw [List.length_replicate]; exact hb2, hb1.alloc _⟩
  have HMk := Lib.hid (making_any g hm W1 (hg.below hB1))
  have HSet := Lib.hid (fun (a : Option Addr) (c : Nat) (W : World) (hW : Below W1.heap.size W1 W) (ho : OwnP W1.heap.size W a c (mkL g)) =>
    settle_any (mkL g) a c 74 #[.pointer (some ⟨w.heap.size + 1 + 1, 0, none⟩)] (fun _ _ => by kernel_rfl) (MJ g (SoundE g) w W1.heap.size (w.heap.size + 1 + 1) (w.heap.size + 1) a c) _ _ (Nat.le_trans (mkL_len g) (Nat.le_trans hm.prods (by omega)))
      (fun M W h => h.prods hg) (fun M W V h hB => h.below hB) (marks_steps hm hg (fun x M w hx hM hl hi k hk hkl => f74_any x _ _ M w hM (by rw [hl]; exact hm.sorts2) hi (hm.right x (mkL_mem.1 hx).1) (fun s hs hk => by rw [hl]; exact hm.sym x (mkL_mem.1 hx).1 s hs (kind_one hm (mkL_mem.1 hx).1 hs hk)) k hk hkl) (fun x M hx hS hl hq => nullable_any_sound hm hx hS hl hq)) (List.replicate g.sorts.length false) W
      ⟨kM.below hW (by rw [hs1]; omega) (by rw [hs1]; omega), by simp, nullable_any_start g, hB1.trans (hW.mono hB1.size), ho, by omega, by rw [hs1]; omega, by omega, by rw [hs1]; omega, by omega⟩)
  have HEnd : Hid (∀ M, M.length = g.sorts.length → SoundE g M → (∀ x, x ∈ mkL g → x.right.any (filledQ M) = false → lv M x.left = true) → NullP g M) := Lib.hid fun M h1 h2 h3 => nullable_any_end hm h1 h2 h3
  have HK0 := Lib.hid k0
  have HW1 := Lib.hid hW1
  have HB1 := Lib.hid hB1
  have Hs1 := Lib.hid hs1
  obtain ⟨n, hn⟩ : ∃ n, n = g.sorts.length := ⟨_, rfl⟩
  have N1 := Lib.hid hn
  have hn1 := hm.sorts2
  rw [← hn] at hn1 hmk HW1
  clear hm hf hg hb0 hb1 hb2 k0 kM hB1 hs1 hW1
  unfold gramV gramC at *
  rw [← hn] at HW1 HK0 HMk HEnd ⊢
  clear hn
  obtain ⟨RL, hRL⟩ : ∃ RL : List Bool, RL = List.replicate n false := ⟨_, rfl⟩
  rw [← hRL] at hmk HW1
  clear hRL
  go_enter Tryz.func48, Tryz.ntmps48
  go_wp2_with fail
  rw [← HW1.out]
  refine HMk.out.mono ?_
  rintro e w3 ⟨a, c, rfl, hO, hB3⟩
  have HC := Lib.hid (HSet.out a c w3 hB3 hO)
  clear hO hB3 HSet HMk
  go_wp2_with fail
  refine HC.out.mono ?_
  rintro e w4 ⟨rfl, M, hJ, hq⟩
  have HR := Lib.hid (HEnd.out M (by rw [hJ.len, N1.out]) hJ.snd hq)
  have HJ := Lib.hid hJ
  have cx := hJ.mark.bx.cell 0
  have lx := hJ.mark.bx.lt
  clear hJ hq HC HEnd
  go_wp2
  go_ret
  exact ⟨M, w.heap.size + 1, HR.out, rfl, by omega, HJ.out.mark.bm, HJ.out.low⟩
end Go.Proofs.YtodnlcbnbkkanaaGreatDoor
end
section
namespace Go.Proofs.YtodnlcbnbkkanaaGreatDoor
open Go Go.RowKit

def SoundR (g : GramM) (M : List Bool) : Prop := M[g.start.toNat]? = some true ∧ SoundU g false [] M
structure RL (g : GramM) (x : ProdM) (k : Nat) (M0 : List Bool) (j : Nat) (news : Bool) (M : List Bool) : Prop where
  no : news = false → M = M0 ∧ (lv M0 k = true → ∀ (i : Nat) (s : SymM), i < j → x.right[i]? = some s → s.kind = 1 → lv M0 s.sort = true)
  yes : news = true → M.count false < M0.count false
def ReachR (g : GramM) (M : List Bool) : Prop := ReachU g false [] M
end Go.Proofs.YtodnlcbnbkkanaaGreatDoor
end
section
namespace Go.Proofs.YtodnlcbnbkkanaaGreatDoor
open Go Go.RowKit

def ints (L : List Int) : Array Value := (L.map (Value.int .i64)).toArray
theorem ints_at (L : List Int) (i : Nat) (h : i < L.length) : (ints L)[i]? = some (.int .i64 L[i]) := by
  unfold ints
  simp [List.getElem?_eq_getElem h]
theorem ints_set (L : List Int) (i : Nat) (v : Int) : (ints L).setIfInBounds i (.int .i64 v) = ints (L.set i v) := by
  unfold ints
  rw [List.setIfInBounds_toArray, List.map_set]
def arrL (S : List Int) : List Int := S ++ List.replicate (1000 - S.length) (-1)
theorem arrL_len {S : List Int} (h : S.length ≤ 1000) : (arrL S).length = 1000 := by unfold arrL; simp; omega
theorem arrL_at {S : List Int} {k : Nat} (h : k < S.length) : (ints (arrL S))[k]? = some (.int .i64 (gi S k)) := by
  rw [ints_at _ _ (by unfold arrL; simp; omega)]
  unfold arrL gi
  rw [List.getElem_append_left h, Int.toNat_natCast, List.getD_eq_getElem?_getD, List.getElem?_eq_getElem h]; rfl
theorem arrL_set {S : List Int} {k : Nat} (h : k < S.length) (v : Int) : (ints (arrL S)).setIfInBounds k (.int .i64 v) = ints (arrL (S.set k v)) := by
  rw [ints_set]
  unfold arrL
  rw [List.set_append_left _ _ h, List.length_set]

theorem sumA_tail (S : List Int) (s : SymM) : ∀ (l : List SymM) (j : Nat) (n : Int), l[j]? = some s → symN S s < 0 → sumA S l n = -1 := by
  intro l
  induction l with
  | nil => intro j n h; simp at h
  | cons x r ih =>
    intro j n h hs
    rw [sumA_cons]
    split
    · rfl
    · next hx =>
      cases j with
      | zero => simp at h; subst h; exact absurd hs hx
      | succ j => exact ih j _ (by simpa using h) hs

set_option maxRecDepth 100000 in
set_option maxHeartbeats 4000000 in
theorem of_any (x : ProdM) (S : List Int) (B : Nat) (w : World) (hb : Blk w B 127 (ints (arrL S))) (hS : S.length ≤ 1000) (hlo : ∀ i, -1 ≤ gi S i ∧ gi S i ≤ 1048577) (hx : ProdIn w x) (hr : x.right.length ≤ 30) (hs : ∀ s, s ∈ x.right → s.kind = 1 → ∃ k : Nat, s.sort = k ∧ k < S.length) :
    Calls Tryz.prog 83 #[.pointer (some ⟨B, 0, none⟩), prodV x] w fun e w' => e = .returned (.int .i64 (sumA S x.right 0)) ∧ Below w.heap.size w w' := by
  have hB1 : Below w.heap.size w (w.alloc (.cells (prodC x) 65)) := (Below.refl _ _).alloc (Nat.le_refl _) _
  have HP := Lib.hid (Blk.new w 65 (prodC x))
  have HB := Lib.hid hB1
  have HRow : Hid (RowSym w x.ra x.right) := Lib.hid hx
  have HS := Lib.hid hs
  have HA := Lib.hid hb
  have HLo := Lib.hid hlo
  have hbl := hb.lt
  obtain ⟨ra, hra⟩ : ∃ ra, ra = x.ra := ⟨_, rfl⟩
  obtain ⟨n, hn⟩ : ∃ n, n = x.right.length := ⟨_, rfl⟩
  have HN := Lib.hid hn
  obtain ⟨q, hq⟩ : ∃ q, q = sumA S x.right 0 := ⟨_, rfl⟩
  have HQ := Lib.hid hq
  have HE : Hid (prodC x = #[.int .i64 x.left, .slice ra n x.rc, .string x.cons, .int .i64 x.role, .bool x.prefer, .bool x.avoid, .int .i64 x.frm]) := Lib.hid (by rw [hra, hn]; rfl)
  rw [← hra] at HRow
  rw [← hq]
  rw [← hn] at hr
  unfold prodV
  rw [HE.out] at HP HB ⊢
  obtain ⟨c0, c1, c2, c3, c4, c5, c6⟩ := cells7 HP.out
  clear hB1 hx hs hb hlo hra hn hq HE
  go_enter Tryz.func83, Tryz.ntmps83
  go_wp2
  go_loopw [5, 12] (fun vs vj wr => ∃ (j : Nat) (t : Int), vs = .int .i64 t ∧ vj = .int .i64 j ∧ j ≤ n ∧ 0 ≤ t ∧ t ≤ 1048577 ∧ Hid (t = sumA S (x.right.take j) 0) ∧ Hid (Below w.heap.size w wr)) (fun _ vj _ => n - (intOf vj).toNat)
  case atStart => exact ⟨0, 0, rfl, rfl, Nat.zero_le _, Int.le_refl _, by omega, Lib.hid rfl, HB⟩
  case round =>
    clear c0 c1 c2 c3 c4 c5 c6 HP HB
    obtain ⟨j, t, rfl, rfl, hj, ht0, ht1, K, HBr⟩ := hrel
    by_cases hlt : j < n
    · obtain ⟨s, hs⟩ : ∃ s, x.right[j]? = some s := ⟨_, List.getElem?_eq_getElem (by rw [← HN.out]; exact hlt)⟩
      obtain ⟨b1, o1, rfl, hb1, hc1, _⟩ := HRow.out j s hs
      have hc1 := hc1.below HBr.out hb1
      have hb1' := Nat.lt_of_lt_of_le hb1 HBr.out.size
      obtain ⟨s0, s1, s2, s3, s4, s5⟩ := Sym_at hc1
      have z1 : (j : Int) < (n : Int) := by omega
      have z0 : (0 : Int) ≤ (j : Int) := by omega
      have HSk := Lib.hid (HS.out s (List.mem_of_getElem? hs))
      have HSum : Hid (sumA S (x.right.take (j + 1)) 0 = if symN S s < 0 then -1 else min (t + symN S s) 1048577) := Lib.hid (by
        rw [take_snoc x.right j s hs, sumA_snoc S s _ 0 (Int.le_refl 0), ← K.out, if_neg (by omega)])
      have HNeg : Hid (symN S s < 0 → q = -1) := Lib.hid (fun h => by
        rw [HQ.out]
        have e := sumA_tail S s x.right j 0 hs h
        exact e)
      have hbr : B < wr.heap.size := Nat.lt_of_lt_of_le hbl HBr.out.size
      have HAr := Lib.hid (HA.out.below HBr.out hbl)
      clear hs hc1 K
      obtain ⟨sk, ss, so⟩ := s
      dsimp only at *
      cases k1 : (sk == 1) with
      | false =>
        have hv : Hid (symN S ⟨sk, ss, so⟩ = 1) := Lib.hid (by unfold symN; rw [if_neg (by simpa using k1)])
        have HZ : Hid (min (t + 1) 1048577 = sumA S (x.right.take (j + 1)) 0) := Lib.hid (by rw [HSum.out, hv.out, if_neg (by decide)])
        have z3 : IntKind.i64.wrap (t + 1) = t + 1 := IntWalk.i64_in _ (by omega)
        clear HSum HNeg HSk HAr
        go_wp2
        go_roundw
        case rel => exact ⟨j + 1, if 1048577 < t + 1 then 1048577 else t + 1, rfl, by go_num, by omega, by split <;> omega, by split <;> omega, Lib.hid (by rw [← HZ.out]; split <;> omega), Lib.hid (HBr.out.alloc HBr.out.size _)⟩
        case measure => simp [intOf]; omega
      | true =>
        obtain ⟨k, rfl, hk⟩ := HSk.out (by simpa using k1)
        have cA := HAr.out.cell k
        rw [arrL_at hk] at cA
        have hv : Hid (symN S ⟨sk, ss, (k : Int)⟩ = gi S k) := Lib.hid (by unfold symN; rw [if_pos (by simpa using k1)])
        obtain ⟨g1, g2⟩ := HLo.out k
        obtain ⟨v, hvv⟩ : ∃ v, v = gi S (k : Int) := ⟨_, rfl⟩
        rw [← hvv] at cA g1 g2 hv
        have hk1 : k < 1000 := by omega
        have kz1 : (k : Int) < 1000 := by omega
        have kz0 : (0 : Int) ≤ (k : Int) := by omega
        clear hvv HSk HAr hk
        by_cases hneg : v = -1
        · subst hneg
          have HE := Lib.hid (HNeg.out (by rw [hv.out]; decide))
          clear HSum HNeg
          go_wp2
          go_quiet (fail)
          go_wp2
          go_ret
          exact ⟨by rw [HE.out]; rfl, below_drewN (HBr.out.alloc HBr.out.size _) _⟩
        · have hneg2 : (v == -1) = false := by simpa using hneg
          have HZ : Hid (min (t + v) 1048577 = sumA S (x.right.take (j + 1)) 0) := Lib.hid (by rw [HSum.out, hv.out, if_neg (by omega)])
          have z3 : IntKind.i64.wrap (t + v) = t + v := IntWalk.i64_in _ (by omega)
          have hv0 : 0 ≤ v := by omega
          clear HSum HNeg hneg
          go_wp2
          go_quiet (fail)
          go_wp2
          go_roundw
          case rel => exact ⟨j + 1, if 1048577 < t + v then 1048577 else t + v, rfl, by go_num, by omega, by split <;> omega, by split <;> omega, Lib.hid (by rw [← HZ.out]; split <;> omega), Lib.hid (below_drewN (HBr.out.alloc HBr.out.size _) _)⟩
          case measure => simp [intOf]; omega
    · obtain rfl : j = n := by omega
      have HE : Hid (t = q) := Lib.hid (by rw [K.out, HQ.out, List.take_of_length_le (by have := HN.out; omega)])
      clear K
      go_wp2
      go_ret
      exact ⟨by rw [← HE.out]; rfl, HBr.out⟩
end Go.Proofs.YtodnlcbnbkkanaaGreatDoor
end
section
namespace Go.Proofs.YtodnlcbnbkkanaaGreatDoor
open Go Go.RowKit

structure NJ (g : GramM) (w0 : World) (N B : Nat) (a : Option Addr) (c : Nat) (S : List Int) (W : World) : Prop where
  arr : Blk W B 127 (ints (arrL S))
  len : S.length = g.sorts.length
  snd : SoundN g S
  low : Below w0.heap.size w0 W
  own : OwnP N W a c (mkL g)
  hx : w0.heap.size ≤ B ∧ B < N
section
variable {g : GramM} {w0 : World} {N B : Nat} {a : Option Addr} {c : Nat} {S : List Int} {W : World}
theorem NJ.below {V : World} (h : NJ g w0 N B a c S W) (hB : Below W.heap.size W V) : NJ g w0 N B a c S V :=
  ⟨h.arr.below hB h.arr.lt, h.len, h.snd, h.low.trans (hB.mono h.low.size), h.own.below hB (Nat.le_refl _), h.hx⟩
theorem NJ.set (h : NJ g w0 N B a c S W) {k : Nat} (hk : k < S.length) {v : Int} (hs : SoundN g (S.set k v)) : NJ g w0 N B a c (S.set k v) (W.setCell ⟨B, k, none⟩ (.int .i64 v)) :=
  ⟨by rw [← arrL_set hk]; exact h.arr.set k _, by rw [List.length_set]; exact h.len, hs, h.low.setCell (p := ⟨B, k, none⟩) h.hx.1 _, h.own.put h.hx.2 _, h.hx⟩
theorem NJ.prods (h : NJ g w0 N B a c S W) (hg : GIn w0 g) : RowProd W a (mkL g) := h.own.rowProd fun x hx => (RowOf.mem hg.prods (mkL_mem.1 hx).1).below h.low
end
theorem gi_nat {S : List Int} {k : Nat} (h : k < S.length) : S[k]? = some (gi S k) := by
  unfold gi; rw [Int.toNat_natCast, List.getD_eq_getElem?_getD, List.getElem?_eq_getElem h]; rfl

def ShortPost (w : World) (B k : Nat) (n u : Int) (e : Ending) (w' : World) : Prop := ∃ w3, Below w.heap.size w w3 ∧
  ((n = -1 ∨ (u ≠ -1 ∧ u ≤ n)) ∧ e = .returned (.bool false) ∧ w' = w3 ∨ (n ≠ -1 ∧ (u = -1 ∨ n < u)) ∧ e = .returned (.bool true) ∧ w' = w3.setCell ⟨B, k, none⟩ (.int .i64 n))

set_option maxRecDepth 100000 in
set_option maxHeartbeats 4000000 in
theorem f82_any (x : ProdM) (S : List Int) (B : Nat) (w : World) (hb : Blk w B 127 (ints (arrL S))) (hS : S.length ≤ 1000) (hlo : ∀ i, -1 ≤ gi S i ∧ gi S i ≤ 1048577) (hx : ProdIn w x) (hr : x.right.length ≤ 30) (hs : ∀ s, s ∈ x.right → s.kind = 1 → ∃ k : Nat, s.sort = k ∧ k < S.length) (k : Nat) (hk : x.left = k) (hkl : k < S.length) :
    Calls Tryz.prog 82 #[prodV x, .pointer (some ⟨B, 0, none⟩)] w (ShortPost w B k (sumA S x.right 0) (gi S k)) := by
  have hB1 : Below w.heap.size w (w.alloc (.cells (prodC x) 65)) := (Below.refl _ _).alloc (Nat.le_refl _) _
  have hlt := hb.lt
  have HC := Lib.hid (of_any x S B _ (hb.below hB1 hlt) hS hlo (hx.below hB1) hr hs)
  have HP := Lib.hid (Blk.new w 65 (prodC x))
  have HB := Lib.hid hB1
  have HA := Lib.hid hb
  have HK := Lib.hid hkl
  have hk1 : k < 1000 := by omega
  have HE : Hid (prodC x = #[.int .i64 (k : Int), .slice x.ra x.right.length x.rc, .string x.cons, .int .i64 x.role, .bool x.prefer, .bool x.avoid, .int .i64 x.frm]) := Lib.hid (by rw [← hk]; rfl)
  have hn := sumA_range S x.right 0 (by omega) (by omega)
  obtain ⟨n, hnn⟩ : ∃ n, n = sumA S x.right 0 := ⟨_, rfl⟩
  rw [← hnn] at HC hn ⊢
  obtain ⟨u, hu⟩ : ∃ u, u = gi S (k : Int) := ⟨_, rfl⟩
  have HU := Lib.hid hu
  rw [← hu]
  clear hu
  unfold prodV at *
  rw [HE.out] at HC HP HB ⊢
  obtain ⟨c0, c1, c2, c3, c4, c5, c6⟩ := cells7 HP.out
  clear hB1 hb hx hs hk hkl hnn hlo hr hS
  go_enter Tryz.func82, Tryz.ntmps82
  go_wp2_with fail
  refine HC.out.mono ?_
  rintro e w3 ⟨rfl, hB3⟩
  have HB3 := Lib.hid (HB.out.trans (hB3.mono HB.out.size))
  have HP3 := Lib.hid (HP.out.below hB3 HP.out.lt)
  have HA3 := Lib.hid (HA.out.below HB3.out hlt)
  obtain ⟨d0, d1, d2, d3, d4, d5, d6⟩ := cells7 HP3.out
  have l3 := HP3.out.lt
  have lA := HA3.out.lt
  have cA := HA3.out.cell k
  rw [arrL_at HK.out] at cA
  have fA := HA3.out.frozen k
  rw [← HU.out] at cA
  have kz1 : (k : Int) < 1000 := by omega
  have kz0 : (0 : Int) ≤ (k : Int) := by omega
  clear hB3 HC c0 c1 c2 c3 c4 c5 c6 HP HA
  by_cases h1 : n = -1
  · subst h1
    go_wp2
    go_ret
    exact ⟨w3, HB3.out, .inl ⟨.inl rfl, rfl, rfl⟩⟩
  · have h1b : (n == -1) = false := by simpa using h1
    by_cases h2 : u = -1
    · subst h2
      have H1 := Lib.hid h1
      clear h1
      go_wp2
      go_ret
      exact ⟨w3, HB3.out, .inr ⟨⟨H1.out, .inl rfl⟩, rfl, rfl⟩⟩
    · have h2b : (u == -1) = false := by simpa using h2
      have h2c : (u != -1) = true := by simpa using h2
      have H1 := Lib.hid h1
      have H2 := Lib.hid h2
      clear h1 h2
      by_cases h3 : u ≤ n
      · have h3b : decide (u ≤ n) = true := by simpa using h3
        go_wp2
        go_ret
        exact ⟨w3, HB3.out, .inl ⟨.inr ⟨H2.out, h3⟩, rfl, rfl⟩⟩
      · have h3b : decide (u ≤ n) = false := by simpa using h3
        have H3 := Lib.hid h3
        clear h3
        go_wp2
        go_ret
        exact ⟨w3, HB3.out, .inr ⟨⟨H1.out, .inr (by have := H3.out; omega)⟩, rfl, rfl⟩⟩
theorem short_steps {g : GramM} (hm : MayB g) (hs : MaySet g) {w0 : World} (hg : GIn w0 g) {N B : Nat} {a : Option Addr} {c : Nat} :
    StepsBy 82 #[.pointer (some ⟨B, 0, none⟩)] (mkL g) (NJ g w0 N B a c) (fun x S => okN S x) sizeN := by
  intro S W x hx hI
  obtain ⟨k, hk, hkn⟩ := hm.left x (mkL_mem.1 hx).1
  have hkl : k < S.length := by rw [hI.len]; exact hkn
  have hxg := (mkL_mem.1 hx).1
  have hr := sumA_range S x.right 0 (by omega) (by omega)
  refine (f82_any x S B W hI.arr (by rw [hI.len]; exact hm.sorts2) hI.snd.lo ((RowOf.mem hg.prods hxg).below hI.low) (hm.right x hxg) (fun s hs hk => by rw [hI.len]; exact hm.sym x hxg s hs hk) k hk hkl).mono ?_
  rintro e w' ⟨w3, hB, ⟨h, rfl, rfl⟩ | ⟨h, rfl, rfl⟩⟩
  · refine ⟨false, S, rfl, hI.below hB, fun _ => ⟨rfl, fun _ h0 => ?_⟩, fun h => by cases h⟩
    rw [hk]
    have := (hI.snd.lo (k : Int)).1
    omega
  · have hp : 0 ≤ sumA S x.right 0 := by omega
    have hset := hI.snd.set hs hxg (mkL_mem.1 hx).2 hp
    rw [hk, Int.toNat_natCast] at hset
    refine ⟨true, S.set k (sumA S x.right 0), rfl, (hI.below hB).set hkl hset, fun h => by (cases h), fun _ => ?_⟩
    exact sizeN_set (gi_nat hkl) hp hr.2 (by omega)

def ArrPost (g : GramM) (w : World) (e : Ending) (w' : World) : Prop := ∃ (S : List Int) (B : Nat), ShortP g S ∧ e = .returned (.pointer (some ⟨B, 0, none⟩)) ∧ w.heap.size ≤ B ∧ Blk w' B 127 (ints (arrL S)) ∧ Below w.heap.size w w'

theorem zero127 : Tryz.zeroCells127 = ints (List.replicate 1000 0) := by kernel_rfl
def preL (i : Nat) : List Int := List.replicate i (-1) ++ List.replicate (1000 - i) 0
theorem preL_len {i : Nat} (h : i ≤ 1000) : (preL i).length = 1000 := by unfold preL; simp; omega
theorem preL_set {i : Nat} (h : i < 1000) : (preL i).set i (-1) = preL (i + 1) := by
  unfold preL
  rw [List.set_append_right _ _ (by simp), List.length_replicate, Nat.sub_self, show 1000 - i = (1000 - (i + 1)) + 1 by omega, List.replicate_succ, List.set_cons_zero, List.replicate_succ']
  simp
theorem preL_end (n : Nat) (h : n ≤ 1000) : preL 1000 = arrL (List.replicate n (-1)) := by
  unfold preL arrL
  rw [List.length_replicate, List.replicate_append_replicate, show n + (1000 - n) = 1000 by omega, Nat.sub_self, List.replicate_zero, List.append_nil]
theorem sound_start (g : GramM) : SoundN g (List.replicate g.sorts.length (-1)) := fun k n h => by
  rw [List.getElem?_replicate] at h
  split at h
  · exact .inl (by simpa using h.symm)
  · cases h

set_option maxRecDepth 100000 in
set_option maxHeartbeats 4000000 in
theorem shortest_any (g : GramM) (hm : MayB g) (hs : MaySet g) (w : World) (hg : GIn w g) : Calls Tryz.prog 60 #[gramV g] w (ArrPost g w) := by
  have hb0 := Blk.new w 27 (gramC g)
  have hbz := Blk.new (w.alloc (.cells (gramC g) 27)) 127 (ints (preL 0))
  rw [World.size_alloc] at hbz
  have hz : Tryz.zeroCells127 = ints (preL 0) := by rw [zero127]; rfl
  have HMk := Lib.hid (fun W1 (hB1 : Below w.heap.size w W1) => making_any g hm W1 (hg.below hB1))
  have HSet := Lib.hid (fun (W1 : World) (hs1 : w.heap.size + 1 < W1.heap.size) (hB1 : Below w.heap.size w W1) (hz : Blk W1 (w.heap.size + 1) 127 (ints (preL 1000))) (a : Option Addr) (c : Nat) (W : World) (hW : Below W1.heap.size W1 W) (ho : OwnP W1.heap.size W a c (mkL g)) =>
    settle_any (mkL g) a c 82 #[.pointer (some ⟨w.heap.size + 1, 0, none⟩)] (fun _ _ => by kernel_rfl) (NJ g w W1.heap.size (w.heap.size + 1) a c) _ _ (Nat.le_trans (mkL_len g) (Nat.le_trans hm.prods (by omega)))
      (fun S W h => h.prods hg) (fun S W V h hB => h.below hB) (short_steps hm hs hg) (List.replicate g.sorts.length (-1)) W
      ⟨by rw [← preL_end _ hm.sorts2]; exact hz.below hW hs1, by simp, sound_start g, hB1.trans (hW.mono hB1.size), ho, by omega, hs1⟩)
  have HEnd : Hid (∀ S, S.length = g.sorts.length → SoundN g S → (∀ x, x ∈ mkL g → okN S x) → ShortP g S) := Lib.hid fun S h1 h2 h3 => shortP_of hm h1 h2 fun x hx hr => h3 x (mkL_mem.2 ⟨hx, hr⟩) hr
  have HK0 : Hid (Blk ((w.alloc (.cells (gramC g) 27)).alloc (.cells (ints (preL 0)) 127)) w.heap.size 27 (gramC g) ∧ Blk ((w.alloc (.cells (gramC g) 27)).alloc (.cells (ints (preL 0)) 127)) (w.heap.size + 1) 127 (ints (preL 0)) ∧ Below w.heap.size w ((w.alloc (.cells (gramC g) 27)).alloc (.cells (ints (preL 0)) 127))) :=
    Lib.hid ⟨hb0.alloc _, hbz, ((Below.refl _ w).alloc (Nat.le_refl _) _).alloc (by simp) _⟩
  have HZ := Lib.hid hz
  clear hm hs hg hb0 hbz hz
  unfold gramV gramC at *
  go_enter Tryz.func60, Tryz.ntmps60
  go_wp2_with fail
  rw [HZ.out]
  go_loopw [5] (fun vi wr => ∃ i : Nat, vi = .int .i64 i ∧ i ≤ 1000 ∧ Hid (Blk wr w.heap.size 27 #[.slice g.sa g.sorts.length g.sc, .slice g.pa g.prods.length g.pc, .int .i64 g.start, .slice g.fa g.forbid.length g.fc, .slice g.wa g.follow.length g.wc] ∧ Blk wr (w.heap.size + 1) 127 (ints (preL i)) ∧ Below w.heap.size w wr)) (fun vi _ => 1000 - (intOf vi).toNat)
  case atStart => exact ⟨0, rfl, Nat.zero_le _, HK0⟩
  case round =>
    clear HK0 HZ
    obtain ⟨i, rfl, hi, K⟩ := hrel
    by_cases hlt : i < 1000
    · have z1 : (i : Int) < 1000 := by omega
      have z0 : (0 : Int) ≤ (i : Int) := by omega
      have cA := K.out.2.1.cell i
      rw [ints_at _ _ (by rw [preL_len hi]; exact hlt)] at cA
      have fA := K.out.2.1.frozen i
      have lA := K.out.2.1.lt
      have HN := Lib.hid (K.out.2.1.set i (.int .i64 (-1)))
      have HN2 : Hid (Blk (wr.setCell ⟨w.heap.size + 1, i, none⟩ (.int .i64 (-1))) (w.heap.size + 1) 127 (ints (preL (i + 1)))) := Lib.hid (by have h := HN.out; rw [ints_set, preL_set hlt] at h; exact h)
      have HG := Lib.hid (K.out.1.other (a := ⟨w.heap.size + 1, i, none⟩) (by show w.heap.size ≠ w.heap.size + 1; omega) (.int .i64 (-1)))
      have HB := Lib.hid (K.out.2.2.setCell (p := ⟨w.heap.size + 1, i, none⟩) (by show w.heap.size ≤ w.heap.size + 1; omega) (.int .i64 (-1)))
      obtain ⟨u, hu⟩ : ∃ u, u = (preL i)[i]'(by rw [preL_len hi]; exact hlt) := ⟨_, rfl⟩
      rw [← hu] at cA
      clear K HN hu
      go_wp2
      go_roundw
      case rel => exact ⟨i + 1, by go_num, by omega, Lib.hid ⟨HG.out, HN2.out, HB.out⟩⟩
      case measure => simp [intOf]; omega
    · obtain rfl : i = 1000 := by omega
      obtain ⟨c0, c1, c2, c3, c4⟩ := (show Blk wr w.heap.size 27 (gramC g) from K.out.1).gram
      have l0 := K.out.1.lt
      have HM := Lib.hid (HMk.out wr K.out.2.2)
      have HS := Lib.hid (HSet.out wr K.out.2.1.lt K.out.2.2 K.out.2.1)
      clear HMk HSet K
      go_wp2_with fail
      refine HM.out.mono ?_
      rintro e w3 ⟨a, c, rfl, hO, hB3⟩
      have HC := Lib.hid (HS.out a c w3 hB3 hO)
      clear hO hB3 HS HM
      go_wp2_with fail
      refine HC.out.mono ?_
      rintro e w4 ⟨rfl, S, hJ, hq⟩
      have HR := Lib.hid (HEnd.out S hJ.len hJ.snd hq)
      have HJ := Lib.hid hJ
      clear hJ hq HC HEnd
      go_wp2
      go_ret
      exact ⟨S, w.heap.size + 1, HR.out, rfl, by omega, HJ.out.arr, HJ.out.low⟩
end Go.Proofs.YtodnlcbnbkkanaaGreatDoor
end
section
namespace Go.Proofs.YtodnlcbnbkkanaaGreatDoor
open Go Go.RowKit

set_option maxRecDepth 100000 in
set_option maxHeartbeats 2000000 in
theorem f110_any (x : ProdM) (Bx Bm : Nat) (M : List Bool) (w : World) (h : MarkAt Bx Bm M w) (hM : M.length ≤ 1000) (hx : ProdIn w x) (hr : x.right.length ≤ 30) (hs : ∀ s, s ∈ x.right → s.kind = 1 → ∃ k : Nat, s.sort = k ∧ k < M.length) :
    Calls Tryz.prog 110 #[prodV x, .pointer (some ⟨Bx, 0, none⟩)] w fun e w' => e = .returned (.bool (x.right.any (lacksQ M))) ∧ Below w.heap.size w w' := by
  have hB1 : Below w.heap.size w (w.alloc (.cells (prodC x) 65)) := (Below.refl _ _).alloc (Nat.le_refl _) _
  obtain ⟨l1, l2⟩ := h.lt
  have HC := Lib.hid (containsSym_any x.ra x.rc x.right (lacksQ M) 111 #[.pointer (some ⟨Bx, 0, none⟩)] (fun _ _ => by kernel_rfl) _ (hx.below hB1) (Nat.le_trans hr (by omega)) (fun s hsx W hW =>
    f111_any s Bx Bm M W ((h.below hB1 l1 l2).below hW (Nat.lt_of_lt_of_le l1 hB1.size) (Nat.lt_of_lt_of_le l2 hB1.size)) hM (hs s hsx)))
  have HB := Lib.hid hB1
  clear hB1 h hx hs hM
  generalize x.right.any (lacksQ M) = r at *
  unfold prodV prodC at *
  go_enter Tryz.func110, Tryz.ntmps110
  go_wp2_with fail
  refine HC.out.mono ?_
  rintro e w3 ⟨rfl, hB3⟩
  have HB3 := Lib.hid (HB.out.trans (hB3.mono HB.out.size))
  clear hB3 HC
  go_wp2
  go_ret
  exact ⟨rfl, HB3.out⟩

def livL (g : GramM) (L : List Bool) : List ProdM := (mkL g).filter fun x => !(x.right.any (lacksQ L))
theorem livL_mem {g : GramM} {L : List Bool} {x : ProdM} : x ∈ livL g L ↔ x ∈ g.prods ∧ treeP x ∧ x.right.any (lacksQ L) = false := by
  unfold livL
  rw [List.mem_filter, mkL_mem]
  simp [and_assoc]
theorem livL_len (g : GramM) (L : List Bool) : (livL g L).length ≤ g.prods.length := Nat.le_trans (List.length_filter_le _ _) (mkL_len g)
def LivPost (g : GramM) (w : World) (e : Ending) (w' : World) : Prop := ∃ (L : List Bool) (a : Option Addr) (c : Nat), Live g L ∧ e = .returned (.slice a (livL g L).length c) ∧ OwnP w.heap.size w' a c (livL g L) ∧ Below w.heap.size w w'

set_option maxRecDepth 100000 in
set_option maxHeartbeats 4000000 in
theorem living_any (g : GramM) (hm : MayB g) (hf : Fit g) (w : World) (hg : GIn w g) : Calls Tryz.prog 84 #[gramV g] w (LivPost g w) := by
  have hB1 : Below w.heap.size w (w.alloc (.cells (gramC g) 27)) := (Below.refl _ _).alloc (Nat.le_refl _) _
  have HC := Lib.hid (productive_any g hm hf _ (hg.below hB1))
  have HB := Lib.hid hB1
  have HK := Lib.hid (Blk.new w 27 (gramC g))
  have HMk := Lib.hid (fun W1 (hB1 : Below w.heap.size w W1) => making_any g hm W1 (hg.below hB1))
  have HDel := Lib.hid (fun (M : List Bool) (Bx Bm N : Nat) (a : Option Addr) (c : Nat) (W : World) (hl : M.length = g.sorts.length) (hN : N ≤ W.heap.size) (hW : Below w.heap.size w W) (hwN : w.heap.size ≤ N) (hk : MarkAt Bx Bm M W) (h1 : Bx < N) (h2 : Bm < N) (ho : OwnP N W a c (mkL g)) =>
    delete_any 110 #[.pointer (some ⟨Bx, 0, none⟩)] (fun _ _ => by kernel_rfl) a c (mkL g) (fun x => x.right.any (lacksQ M)) N W hN (fun x hx V hV => f110_any x Bx Bm M V (hk.below hV h1 h2) (by rw [hl]; exact hm.sorts2) ((RowOf.mem hg.prods (mkL_mem.1 hx).1).below (hW.trans (hV.mono hwN))) (hm.right x (mkL_mem.1 hx).1) (fun s hs hk => by rw [hl]; exact hm.sym x (mkL_mem.1 hx).1 s hs hk))
      (Nat.le_trans (mkL_len g) (Nat.le_trans hm.prods (by omega))) ho)
  clear hm hf hg hB1
  unfold gramV gramC at *
  go_enter Tryz.func84, Tryz.ntmps84
  go_wp2_with fail
  refine HC.out.mono ?_
  rintro e w3 ⟨M, B, hL, rfl, hBl, hbk, hB3⟩
  have HL := Lib.hid hL
  have HK3 := Lib.hid (HK.out.below hB3 HK.out.lt)
  have hB4 : Below w3.heap.size w3 (w3.alloc (.cells #[.slice (some ⟨B, 0, none⟩) M.length M.length] 31)) := (Below.refl _ _).alloc (Nat.le_refl _) _
  have HMA : Hid (MarkAt w3.heap.size B M (w3.alloc (.cells #[.slice (some ⟨B, 0, none⟩) M.length M.length] 31))) := Lib.hid ⟨Blk.new w3 31 _, hbk.below hB4 hbk.lt⟩
  have HB4 := Lib.hid (HB.out.trans ((hB3.trans (hB4.mono hB3.size)).mono HB.out.size))
  have HBB : Hid (w.heap.size ≤ B ∧ B < w3.heap.size ∧ w.heap.size ≤ w3.heap.size) := Lib.hid ⟨Nat.le_trans HB.out.size hBl, hbk.lt, Nat.le_trans HB.out.size hB3.size⟩
  have HC2 := Lib.hid (HMk.out _ HB4.out)
  obtain ⟨c0, c1, c2, c3, c4⟩ := (show Blk w3 w.heap.size 27 (gramC g) from HK3.out).gram
  have l3 := HK3.out.lt
  generalize M.length = n at *
  clear hL hBl hbk hB3 hB4 HC HMk HB HK
  go_wp2_with fail
  refine HC2.out.mono ?_
  rintro e w4 ⟨a, c, rfl, hO, hB5⟩
  have hs4 : w3.heap.size + 1 ≤ w4.heap.size := by have := hB5.size; simpa using this
  have HC3 := Lib.hid (HDel.out M w3.heap.size B (w3.heap.size + 1) a c w4 HL.out.1 hs4 (HB4.out.trans (hB5.mono HB4.out.size)) (by have := HBB.out; omega) (HMA.out.below hB5 (by simp) (by have := HBB.out; simp; omega)) (by omega) (by have := HBB.out; omega) (by simpa using hO))
  have HB5 := Lib.hid (HB4.out.trans (hB5.mono HB4.out.size))
  clear hO hB5 HC2 hs4
  go_wp2_with fail
  refine HC3.out.mono ?_
  rintro e w5 ⟨rfl, hO5, hB6⟩
  have HO5 := Lib.hid hO5
  have HB6 := Lib.hid (HB5.out.trans (hB6.mono (by have := HBB.out; omega)))
  clear hO5 hB6 HC3
  go_wp2
  go_ret
  refine ⟨M, a, c, HL.out, rfl, ⟨?_, HO5.out.cap⟩, HB6.out⟩
  rcases HO5.out.row with h | ⟨B', cs, h1, h2, h3⟩
  · exact .inl h
  · exact .inr ⟨B', cs, h1, by have := HBB.out; omega, h3⟩

def TellPost (w : World) (g : GramM) (R : List Bool → Prop) (e : Ending) (w' : World) : Prop :=
  Below w.heap.size w w' ∧ ((checkB g = false ∧ e = .returned (.tuple #[.slice none 0 0, .int .i64 160])) ∨ (checkB g = true ∧ ∃ (M : List Bool) (B : Nat), R M ∧ e = .returned (.tuple #[.slice (some ⟨B, 0, none⟩) M.length M.length, .int .i64 0]) ∧ w.heap.size ≤ B ∧ Blk w' B 4 (bools M)))

set_option maxRecDepth 100000 in
set_option maxHeartbeats 4000000 in
theorem answerB_any (g : GramM) (hf : FitG g) (K : Nat) (eg : ∀ args w, (callFunc K args).run Tryz.prog w = .ok (.enter K args) w) (R : List Bool → Prop) (w : World) (hg : GIn w g) (H : checkB g = true → ∀ W, GIn W g → Calls Tryz.prog K #[gramV g] W (MarksPost W R)) :
    Calls Tryz.prog 45 #[gramV g, .func (.func K) #[] #[]] w (TellPost w g R) := by
  have hB1 : Below w.heap.size w (w.alloc (.cells (gramC g) 27)) := (Below.refl _ _).alloc (Nat.le_refl _) _
  have HC := Lib.hid (check_any g _ (hg.below hB1) hf)
  have HB := Lib.hid hB1
  have HK := Lib.hid (Blk.new w 27 (gramC g))
  have HG := Lib.hid hg
  obtain ⟨b, hb⟩ : ∃ b, b = checkB g := ⟨_, rfl⟩
  have HBb := Lib.hid hb
  rw [← hb] at HC
  have HH := Lib.hid (fun h W hW => H (hb.symm.trans h) W hW)
  clear hf hg hB1 hb H
  unfold gramV gramC errI at *
  go_enter Tryz.func45, Tryz.ntmps45
  go_wp2_with fail
  refine HC.out.mono ?_
  rintro e w3 ⟨rfl, hB3⟩
  have HB3 := Lib.hid (HB.out.trans (hB3.mono HB.out.size))
  have HK3 := Lib.hid (HK.out.below hB3 HK.out.lt)
  clear hB3 HC
  cases b with
  | false =>
    rw [if_neg (by decide)]
    go_wp2
    go_ret2
    exact ⟨HB3.out, .inl ⟨HBb.out.symm, rfl⟩⟩
  | true =>
    rw [if_pos rfl]
    have HC2 := Lib.hid (HH.out rfl w3 (HG.out.below HB3.out))
    obtain ⟨c0, c1, c2, c3, c4⟩ := (show Blk w3 w.heap.size 27 (gramC g) from HK3.out).gram
    have l3 := HK3.out.lt
    clear HH
    go_wp2_with fail
    refine HC2.out.mono ?_
    rintro e w4 ⟨M, B, hR, rfl, hBl, hk, hB4⟩
    have HR := Lib.hid hR
    have HBl : Hid (w.heap.size ≤ B) := Lib.hid (Nat.le_trans HB3.out.size hBl)
    have HKk := Lib.hid hk
    have HB4 := Lib.hid (HB3.out.trans (hB4.mono HB3.out.size))
    clear hR hBl hk hB4 HC2
    go_wp2
    go_ret2
    exact ⟨HB4.out, .inr ⟨HBb.out.symm, M, B, HR.out, rfl, HBl.out, HKk.out⟩⟩

set_option maxRecDepth 100000 in
set_option maxHeartbeats 1000000 in
theorem Nullable_any (g : GramM) (hf : FitG g) (w : World) (hg : GIn w g) : Calls Tryz.prog 15 #[gramV g] w (TellPost w g (NullP g)) := by
  have hB1 : Below w.heap.size w (w.alloc (.cells (gramC g) 27)) := (Below.refl _ _).alloc (Nat.le_refl _) _
  have HC := Lib.hid (answerB_any g hf 48 (fun _ _ => by kernel_rfl) (NullP g) _ (hg.below hB1) (fun h W hW => nullable_any g (mayB_of h) hf.fit W hW))
  have HB := Lib.hid hB1
  clear hf hg hB1
  unfold gramV gramC at *
  go_enter Tryz.func15, Tryz.ntmps15
  go_wp2_with fail
  refine HC.out.mono ?_
  rintro e w3 ⟨hB3, ⟨hc, rfl⟩ | ⟨hc, M, B, hR, rfl, hBl, hk⟩⟩
  · have HB3 := Lib.hid (HB.out.trans (hB3.mono HB.out.size))
    have Hc := Lib.hid hc
    clear hB3 hc HC
    go_wp2
    go_ret2
    exact ⟨HB3.out, .inl ⟨Hc.out, rfl⟩⟩
  · have HB3 := Lib.hid (HB.out.trans (hB3.mono HB.out.size))
    have Hc := Lib.hid hc
    have HR := Lib.hid hR
    have HBl : Hid (w.heap.size ≤ B) := Lib.hid (Nat.le_trans HB.out.size hBl)
    have HK := Lib.hid hk
    clear hB3 hc HC hR hBl hk
    go_wp2
    go_ret2
    exact ⟨HB3.out, .inr ⟨Hc.out, M, B, HR.out, rfl, HBl.out, HK.out⟩⟩
end Go.Proofs.YtodnlcbnbkkanaaGreatDoor
end
section
namespace Go.Proofs.YtodnlcbnbkkanaaGreatDoor
open Go Go.RowKit

def IntsPost (w : World) (g : GramM) (e : Ending) (w' : World) : Prop := ∃ (S : List Int) (B c : Nat), ShortP g S ∧ e = .returned (.slice (some ⟨B, 0, none⟩) S.length c) ∧ w.heap.size ≤ B ∧ RowInt w' (some ⟨B, 0, none⟩) S ∧ Below w.heap.size w w'

theorem cellsI (S : List Int) : cellsL intC S = S.map (Value.int .i64) := by
  unfold cellsL intC
  induction S with
  | nil => rfl
  | cons x r ih => simp only [List.flatMap_cons, List.map_cons, ih]; rfl
theorem arrL_cells {S : List Int} {W : World} {B : Nat} (h : Blk W B 127 (ints (arrL S))) : ∀ j u, (cellsL intC S)[j]? = some u → W.cell? ((⟨B, 0, none⟩ : Addr).add j) = some u := by
  intro j u hj
  rw [cellsI] at hj
  rw [add_off, Nat.zero_add, h.cell]
  have hjl : j < S.length := by have := (List.getElem?_eq_some_iff.1 hj).1; simpa using this
  unfold ints arrL
  rw [List.getElem?_toArray, List.map_append, List.getElem?_append_left (by simpa using hjl)]
  exact hj

set_option maxRecDepth 100000 in
set_option maxHeartbeats 4000000 in
theorem f59_any (g : GramM) (hm : MayB g) (hs : MaySet g) (w : World) (hg : GIn w g) : Calls Tryz.prog 59 #[gramV g] w (IntsPost w g) := by
  obtain ⟨i3, ti3, tz3, ts3, tb3⟩ := info_parts Tryz.info3
  have hB1 : Below w.heap.size w (w.alloc (.cells (gramC g) 27)) := (Below.refl _ _).alloc (Nat.le_refl _) _
  have HC := Lib.hid (shortest_any g hm hs _ (hg.below hB1))
  have HB := Lib.hid hB1
  have HK := Lib.hid (Blk.new w 27 (gramC g))
  have hn1 := hm.sorts1
  have hn2 := hm.sorts2
  obtain ⟨n, hn⟩ : ∃ n, n = g.sorts.length := ⟨_, rfl⟩
  have HN := Lib.hid hn
  clear hm hs hg hB1
  unfold gramV gramC at *
  rw [← hn] at HC HB HK hn1 hn2 ⊢
  clear hn
  go_enter Tryz.func59, Tryz.ntmps59
  go_wp2_with fail
  refine HC.out.mono ?_
  rintro e w3 ⟨S, B, hS, rfl, hBl, hk, hB3⟩
  have HS := Lib.hid hS
  have hSl : S.length = n := by rw [hS.1, HN.out]
  have HA := Lib.hid hk
  have HB3 := Lib.hid (HB.out.trans (hB3.mono HB.out.size))
  have HK3 := Lib.hid (HK.out.below hB3 HK.out.lt)
  have lB := hk.lt
  have hBl2 := Nat.le_trans HB.out.size hBl
  have HSl := Lib.hid hSl
  clear hS hk hB3 HC HK hBl hSl
  go_wp2_with fail
  refine wp_region_still_tail 6 (by kernel_rfl) (by kernel_rfl) ?_
  show wpStill _ _ (World.drew w3) _ _ _
  obtain ⟨W, hW⟩ : ∃ W, W = w3.drew := ⟨_, rfl⟩
  rw [← hW]
  have HW := Lib.hid hW
  have HAW : Hid (Blk W B 127 (ints (arrL S))) := Lib.hid (by rw [hW]; exact HA.out)
  have HKW : Hid (Blk W w.heap.size 27 #[.slice g.sa n g.sc, .slice g.pa g.prods.length g.pc, .int .i64 g.start, .slice g.fa g.forbid.length g.fc, .slice g.wa g.follow.length g.wc]) := Lib.hid (by rw [hW]; exact HK3.out)
  have HBW : Hid (Below w.heap.size w W) := Lib.hid (by rw [hW]; exact HB3.out.drew)
  have c0 := HKW.out.cell 0
  have l0 := HKW.out.lt
  have lB := HAW.out.lt
  clear hW HA HK3 HB3
  have z1 : (n : Int) ≤ 1000 := by omega
  have z0 : (0 : Int) ≤ (n : Int) := by omega
  simp only [List.take_succ_cons, List.take_zero, List.drop_succ_cons, List.drop_zero]
  repeat still_step
  refine wpStill_nil ?_
  show wpList _ _ _ _ _ (World.drew w3)
  rw [← HW.out]
  clear HW
  have hown : W.ownsRow w.heap.size 3 1 (.slice none 0 0) 0 [] := ⟨rfl, .inl ⟨rfl, rfl⟩⟩
  have HOw := Lib.hid hown
  clear hown
  have hsz : w.heap.size ≤ W.heap.size := HBW.out.size
  have HSz := Lib.hid hsz
  clear hsz
  go_wp2_with (at_builtin; (refine wpList_append_own W rfl (.const (.slice none 0 0)) (.tmp 11) 48 rfl w.heap.size 3 i3 _ 1 8 Tryz.underlying48 ti3 tz3 ts3 tb3 rfl (by omega) _ 0 [] rfl HOw.out ⟨B, 0, none⟩ n 1000 (cellsL intC S) rfl (by rw [cellsI, List.length_map, HSl.out, Nat.mul_one]) (arrL_cells HAW.out) (fun u hu => ?_) ?_ ?_ HSz.out (fun v' w' h1 h2 _ => ?_)))
  · rw [cellsI] at hu
    obtain ⟨z, _, rfl⟩ := List.mem_map.1 hu
    rfl
  · unfold maxLen; omega
  · omega
  · rw [Nat.zero_add, List.nil_append] at h1
    have hB : Below w.heap.size w w' := own_fin HOw.out HBW.out (Nat.le_refl _) h2
    have h1' : w'.ownsRow w.heap.size 3 1 v' S.length (cellsL intC S) := by rw [HSl.out]; exact h1
    obtain ⟨a', c', hv, hr⟩ := own_row (G := NoG) (cs := intC) (fun _ => rfl) h1' (fun _ _ => trivial)
    obtain ⟨a2, c2, hv2, hg2, _⟩ := own_slice h1'
    rw [hv] at hv2
    obtain ⟨g2, he, hge⟩ := hg2 0 (by rw [HSl.out]; omega)
    have ha : a' = some ⟨g2, 0, none⟩ := by rw [← he]; simp only [Value.slice.injEq] at hv2; exact hv2.1
    subst ha
    have HR := Lib.hid hr
    have HBw := Lib.hid hB
    subst hv
    clear h1 h1' h2 hB hr hv2 hg2
    go_wp2
    go_ret
    exact ⟨S, g2, c', HS.out, rfl, hge, HR.out, HBw.out⟩
def ShortTell (w : World) (g : GramM) (e : Ending) (w' : World) : Prop :=
  Below w.heap.size w w' ∧ ((checkB g = false ∧ e = .returned (.tuple #[.slice none 0 0, .int .i64 160])) ∨ (checkB g = true ∧ ∃ (S : List Int) (B c : Nat), ShortP g S ∧ e = .returned (.tuple #[.slice (some ⟨B, 0, none⟩) S.length c, .int .i64 0]) ∧ w.heap.size ≤ B ∧ RowInt w' (some ⟨B, 0, none⟩) S))

set_option maxRecDepth 100000 in
set_option maxHeartbeats 4000000 in
theorem answerI_any (g : GramM) (hf : FitG g) (w : World) (hg : GIn w g) :
    Calls Tryz.prog 58 #[gramV g, .func (.func 59) #[] #[]] w (ShortTell w g) := by
  have hB1 : Below w.heap.size w (w.alloc (.cells (gramC g) 27)) := (Below.refl _ _).alloc (Nat.le_refl _) _
  have HC := Lib.hid (check_any g _ (hg.below hB1) hf)
  have HB := Lib.hid hB1
  have HK := Lib.hid (Blk.new w 27 (gramC g))
  have HG := Lib.hid hg
  obtain ⟨b, hb⟩ : ∃ b, b = checkB g := ⟨_, rfl⟩
  have HBb := Lib.hid hb
  rw [← hb] at HC
  have HH := Lib.hid (fun h W hW => f59_any g (mayB_of (hb.symm.trans h)) (maySet_of (hb.symm.trans h)) W hW)
  clear hf hg hB1 hb
  unfold gramV gramC errI at *
  go_enter Tryz.func58, Tryz.ntmps58
  go_wp2_with fail
  refine HC.out.mono ?_
  rintro e w3 ⟨rfl, hB3⟩
  have HB3 := Lib.hid (HB.out.trans (hB3.mono HB.out.size))
  have HK3 := Lib.hid (HK.out.below hB3 HK.out.lt)
  clear hB3 HC
  cases b with
  | false =>
    rw [if_neg (by decide)]
    go_wp2
    go_ret2
    exact ⟨HB3.out, .inl ⟨HBb.out.symm, rfl⟩⟩
  | true =>
    rw [if_pos rfl]
    have HC2 := Lib.hid (HH.out rfl w3 (HG.out.below HB3.out))
    obtain ⟨c0, c1, c2, c3, c4⟩ := (show Blk w3 w.heap.size 27 (gramC g) from HK3.out).gram
    have l3 := HK3.out.lt
    clear HH
    go_wp2_with fail
    refine HC2.out.mono ?_
    rintro e w4 ⟨S, B, c, hR, rfl, hBl, hk, hB4⟩
    have HR := Lib.hid hR
    have HBl : Hid (w.heap.size ≤ B) := Lib.hid (Nat.le_trans HB3.out.size hBl)
    have HKk := Lib.hid hk
    have HB4 := Lib.hid (HB3.out.trans (hB4.mono HB3.out.size))
    clear hR hBl hk hB4 HC2
    go_wp2
    go_ret2
    exact ⟨HB4.out, .inr ⟨HBb.out.symm, S, B, c, HR.out, rfl, HBl.out, HKk.out⟩⟩

set_option maxRecDepth 100000 in
set_option maxHeartbeats 1000000 in
theorem Shortest_any (g : GramM) (hf : FitG g) (w : World) (hg : GIn w g) : Calls Tryz.prog 28 #[gramV g] w (ShortTell w g) := by
  have hB1 : Below w.heap.size w (w.alloc (.cells (gramC g) 27)) := (Below.refl _ _).alloc (Nat.le_refl _) _
  have HC := Lib.hid (answerI_any g hf _ (hg.below hB1))
  have HB := Lib.hid hB1
  clear hf hg hB1
  unfold gramV gramC at *
  go_enter Tryz.func28, Tryz.ntmps28
  go_wp2_with fail
  refine HC.out.mono ?_
  rintro e w3 ⟨hB3, ⟨hc, rfl⟩ | ⟨hc, S, B, c, hR, rfl, hBl, hk⟩⟩
  · have HB3 := Lib.hid (HB.out.trans (hB3.mono HB.out.size))
    have Hc := Lib.hid hc
    clear hB3 hc HC
    go_wp2
    go_ret2
    exact ⟨HB3.out, .inl ⟨Hc.out, rfl⟩⟩
  · have HB3 := Lib.hid (HB.out.trans (hB3.mono HB.out.size))
    have Hc := Lib.hid hc
    have HR := Lib.hid hR
    have HBl : Hid (w.heap.size ≤ B) := Lib.hid (Nat.le_trans HB.out.size hBl)
    have HK := Lib.hid hk
    clear hB3 hc HC hR hBl hk
    go_wp2
    go_ret2
    exact ⟨HB3.out, .inr ⟨Hc.out, S, B, c, HR.out, rfl, HBl.out, HK.out⟩⟩
end Go.Proofs.YtodnlcbnbkkanaaGreatDoor
end
section
namespace Go.Proofs.YtodnlcbnbkkanaaGreatDoor
open Go Go.RowKit Go.Maps Go.WideMaps

def leadV (p : Int × Int) : Value := .agg #[.int .i64 p.1, .int .i64 p.2]
theorem key115 : Keyed Tryz.prog 115 := Keyed.of_law (deep_law_gate laidOut (of_decide_eq_true (by kernel_rfl)) (of_decide_eq_true (by kernel_rfl)) (by kernel_rfl) (by kernel_rfl))
theorem fields115 : (Tryz.prog.fieldsOf 115).toList.map (fun f => (f.name, f.type, f.offset)) = [("from", 3, 0), ("to", 3, 1)] := by kernel_rfl
theorem cellsOf115 : Tryz.prog.cellsOf 115 = 2 := by kernel_rfl
theorem keyType115 : Tryz.prog.keyType 115 = true := by kernel_rfl
def leadK (p : Int × Int) : Lit := .string (keyBytes [.int .i64 p.1, .int .i64 p.2])
theorem under115 : Tryz.prog.underlying 115 = some (.struct (Tryz.prog.fieldsOf 115)) := by kernel_rfl
theorem key_lead (p : Int × Int) (h1 : I64 p.1) (h2 : I64 p.2) : keyOf Tryz.prog 115 (leadV p) = some (leadK p) := by
  have hsz : ∃ m, Tryz.prog.types.size = m + 1 := ⟨Tryz.prog.types.size - 1, by have : 0 < Tryz.prog.types.size := of_decide_eq_true (by kernel_rfl); omega⟩
  obtain ⟨m, hm⟩ := hsz
  have h0 := under115
  have hf := fields115
  have hfm : (leadV p).formed Tryz.prog 115 = true := by simp [leadV, Value.formed, h0, cellsOf115]
  unfold keyOf
  rw [h0, keyType115, hfm, hm]
  unfold Program.keyLits
  simp only [h0, cellsOf115]
  have hall : (Tryz.prog.fieldsOf 115).all (fun x => x.name != "_") = true := by kernel_rfl
  rw [hall]
  revert hf
  generalize (Tryz.prog.fieldsOf 115).toList = fs
  intro hf
  obtain ⟨f0, fs0, rfl⟩ : ∃ f l, fs = f :: l := by cases fs with | nil => simp at hf | cons f l => exact ⟨f, l, rfl⟩
  obtain ⟨f1, fs1, rfl⟩ : ∃ f l, fs0 = f :: l := by cases fs0 with | nil => simp at hf | cons f l => exact ⟨f, l, rfl⟩
  obtain rfl : fs1 = [] := by cases fs1 with | nil => rfl | cons f l => simp at hf
  simp only [List.map_cons, List.map_nil, List.cons.injEq, Prod.mk.injEq, and_true] at hf
  obtain ⟨⟨_, t0, o0⟩, ⟨_, t1, o1⟩⟩ := hf
  simp only [Bool.and_self, if_true, leadV, Value.cells, List.mapM_cons, List.mapM_nil, t0, t1, o0, o1, cellsOf3]
  simp [keyLits3 m _ h1, keyLits3 m _ h2, leadK]
set_option maxRecDepth 100000 in
theorem keyLits3_inv (d : Nat) (v : Value) (ls : List Lit) (h : Tryz.prog.keyLits (d + 1) 3 [v] = some ls) : ∃ n : Int, v = .int .i64 n ∧ I64 n := by
  unfold Program.keyLits at h
  rw [Tryz.underlying3] at h
  cases v <;> simp at h
  rename_i q n
  obtain ⟨⟨rfl, hw⟩, _⟩ := h
  exact ⟨n, rfl, i64_rng hw⟩
theorem formed115 {v : Value} (h : v.formed Tryz.prog 115 = true) : ∃ a b, v = .agg #[a, b] := by
  cases v <;> simp [Value.formed, under115] at h
  rename_i cs
  replace h := h.trans cellsOf115
  obtain ⟨cs⟩ := cs
  match cs, h with
  | [a, b], _ => exact ⟨a, b, rfl⟩
theorem leadV_inj {p q : Int × Int} (h : leadV p = leadV q) : p = q := by
  obtain ⟨a, b⟩ := p
  obtain ⟨a', b'⟩ := q
  unfold leadV at h
  injection h with h
  simpa using h
set_option maxRecDepth 100000 in
theorem lead_inv {v : Value} {l : Lit} (h : keyOf Tryz.prog 115 v = some l) : ∃ p : Int × Int, v = leadV p ∧ l = leadK p ∧ I64 p.1 ∧ I64 p.2 := by
  have hsz : ∃ m, Tryz.prog.types.size = m + 1 := ⟨Tryz.prog.types.size - 1, by have : 0 < Tryz.prog.types.size := of_decide_eq_true (by kernel_rfl); omega⟩
  obtain ⟨m, hm⟩ := hsz
  have h0 := h
  have hf := fields115
  unfold keyOf at h
  rw [under115, keyType115] at h
  cases hfo : v.formed Tryz.prog 115 with
  | false => rw [hfo] at h; simp at h
  | true =>
    rw [hfo, hm] at h
    obtain ⟨a, b, rfl⟩ := formed115 hfo
    simp only [Bool.and_self, if_true, Option.map_eq_some_iff] at h
    obtain ⟨ls, h1, _⟩ := h
    unfold Program.keyLits at h1
    simp only [under115, cellsOf115] at h1
    have hall : (Tryz.prog.fieldsOf 115).all (fun x => x.name != "_") = true := by kernel_rfl
    rw [hall] at h1
    revert hf h1
    generalize (Tryz.prog.fieldsOf 115).toList = fs
    intro hf h1
    obtain ⟨f0, fs0, rfl⟩ : ∃ f l, fs = f :: l := by cases fs with | nil => simp at hf | cons f l => exact ⟨f, l, rfl⟩
    obtain ⟨f1, fs1, rfl⟩ : ∃ f l, fs0 = f :: l := by cases fs0 with | nil => simp at hf | cons f l => exact ⟨f, l, rfl⟩
    obtain rfl : fs1 = [] := by cases fs1 with | nil => rfl | cons f l => simp at hf
    simp only [List.map_cons, List.map_nil, List.cons.injEq, Prod.mk.injEq, and_true] at hf
    obtain ⟨⟨_, t0, o0⟩, ⟨_, t1, o1⟩⟩ := hf
    simp only [if_true, Value.cells, List.mapM_cons, List.mapM_nil, t0, t1, o0, o1, cellsOf3] at h1
    simp at h1
    obtain ⟨x0, k0⟩ : ∃ x, Tryz.prog.keyLits (m + 1) 3 [a] = some x := by
      cases k : Tryz.prog.keyLits (m + 1) 3 [a] with
      | none => rw [k] at h1; simp at h1
      | some x => exact ⟨x, rfl⟩
    obtain ⟨x1, k1⟩ : ∃ x, Tryz.prog.keyLits (m + 1) 3 [b] = some x := by
      cases k : Tryz.prog.keyLits (m + 1) 3 [b] with
      | none => rw [k0, k] at h1; simp at h1
      | some x => exact ⟨x, rfl⟩
    obtain ⟨a, rfl, ra⟩ := keyLits3_inv _ _ _ k0
    obtain ⟨b, rfl, rb⟩ := keyLits3_inv _ _ _ k1
    refine ⟨(a, b), rfl, ?_, ra, rb⟩
    have h2 := key_lead (a, b) ra rb
    unfold leadV at h2
    rw [h0] at h2
    exact Option.some.inj h2
theorem leadK_inj {p q : Int × Int} (hp : I64 p.1 ∧ I64 p.2) (hq : I64 q.1 ∧ I64 q.2) (h : leadK p = leadK q) : p = q := by
  have h1 := key_lead p hp.1 hp.2
  have h2 := key_lead q hq.1 hq.2
  rw [← h] at h2
  exact leadV_inj (key115.inj h1 h2)
theorem leadK_key {p : Int × Int} (hp : I64 p.1 ∧ I64 p.2) : WideAt.IsKeyLit (leadK p) := key115.key (key_lead p hp.1 hp.2)

def P64 (p : Int × Int) : Prop := I64 p.1 ∧ I64 p.2
def MapL (w : World) (b n : Nat) (K : Int × Int → Prop) : Prop := ∃ D : DataW Unit, w.ownsMap Tryz.prog 115 unitE b n D ∧ (∀ p, P64 p → (has D (leadK p) = true ↔ K p)) ∧ ∀ p, K p → P64 p
theorem MapL.made (w : World) : MapL (w.alloc (.map #[] 0)) w.heap.size 0 (fun _ => False) :=
  ⟨.map [], World.ownsMap_made w _ _ _, fun p _ => by simp [has], fun p h => h.elim⟩
theorem MapL.lt {w : World} {b n : Nat} {K : Int × Int → Prop} (h : MapL w b n K) : b < w.heap.size := by
  obtain ⟨D, h, _⟩ := h; exact h.lt
theorem MapL.below {w w' : World} {b n N : Nat} {K : Int × Int → Prop} (h : MapL w b n K) (hB : Below N w w') (hb : b < N) : MapL w' b n K := by
  obtain ⟨D, ⟨es, clock, e1, e2⟩, h1⟩ := h; exact ⟨D, ⟨es, clock, (hB.block b hb).trans e1, e2⟩, h1⟩
theorem MapL.of_iff {w : World} {b n : Nat} {K K' : Int × Int → Prop} (h : MapL w b n K) (hk : ∀ s, K s ↔ K' s) : MapL w b n K' := by
  have : K = K' := funext fun s => propext (hk s)
  subst this; exact h
theorem putL_has {D : DataW Unit} (hD : IsMap D) {K : Int × Int → Prop} (x : Int × Int) (hx : P64 x) (hh : ∀ p, P64 p → (has D (leadK p) = true ↔ K p)) (d : DataW Unit) (p : Int × Int) (hp : P64 p) : has (D.put (leadK x) d) (leadK p) = true ↔ (p = x ∨ K p) := by
  by_cases e : p = x
  · subst e; simp [has_put_same hD (leadK_key hp)]
  · rw [has_put_other (fun e2 => e (leadK_inj hp hx e2))]
    simp [e, hh p hp]

variable {ops : Array Oper} {rest : List Oper} {o : Oper} {a : Act} {Q : Exit → Act → World → Prop}
theorem wpList_putL (w : World) (hg : o.guard = none) (m x v : Operand) (hop : o.op = Op.mapUpdate 112 m x v) (b n : Nat) (K : Int × Int → Prop)
    (hm : a.eval m = .map (some b)) (h : MapL w b n K) (hn : n < maxLen) (p : Int × Int) (hp : P64 p) (hx : a.eval x = leadV p) (hv : a.eval v = .agg #[])
    (hK : ∀ w', MapL w' b (n + 1) (fun t => t = p ∨ K t) → w.grownBy w' (some b) → wpList Tryz.prog ops Q rest (a.put o.dst undef) w') :
    wpList Tryz.prog ops Q (o :: rest) a w := by
  obtain ⟨D, hown, hh, hk⟩ := h
  exact wpList_mapUpdate_own w hg m x v 112 hop 115 143 key115 Tryz.underlying112 unitE b n D hm hown hn _ _ _ hx hv (key_lead p hp.1 hp.2) (.agg []) [] unitElem_mk fun w' h1 h2 => hK w' ⟨_, h1, fun t ht => putL_has hown.isMap p hp hh _ t ht, fun t ht => by
    rcases ht with rfl | ht
    · exact hp
    · exact hk t ht⟩ h2

def RangeL (w : World) (b r n : Nat) (K L : Int × Int → Prop) (cnt : Nat) : Prop :=
  ∃ (D : DataW Unit) (left : Lit → Bool), w.ranges Tryz.prog 115 unitE b r n D left cnt ∧ (∀ p, P64 p → (has D (leadK p) = true ↔ K p)) ∧ (∀ p, K p → P64 p) ∧ (∀ p, P64 p → (left (leadK p) = true ↔ L p)) ∧ ∀ p, L p → P64 p
theorem RangeL.kept {w w' : World} {b r n cnt : Nat} {K L : Int × Int → Prop} {row : Option Nat} (h : RangeL w b r n K L cnt) (hg : w.grownBy w' row) (hb : some b ≠ row) (hr : some r ≠ row) : RangeL w' b r n K L cnt := by
  obtain ⟨D, left, h, h1⟩ := h; exact ⟨D, left, h.kept hg hb hr, h1⟩
theorem RangeL.alloc {w : World} {b r n cnt : Nat} {K L : Int × Int → Prop} (h : RangeL w b r n K L cnt) (o : Obj) : RangeL (w.alloc o) b r n K L cnt := h.kept (World.grownBy_alloc w o none) (by simp) (by simp)
theorem RangeL.left_eq {w : World} {b r n cnt : Nat} {K L : Int × Int → Prop} (h : RangeL w b r n K L cnt) : w.rangeLeft b r = cnt := by
  obtain ⟨D, left, h, _⟩ := h; exact h.left_eq
theorem wpList_rangeL (w : World) (hg : o.guard = none) (m : Operand) (hop : o.op = Op.range 112 m) (b n : Nat) (K : Int × Int → Prop) (hm : a.eval m = .map (some b)) (h : MapL w b n K)
    (hK : ∀ w' cnt, RangeL w' b w.heap.size n K K cnt → cnt ≤ n → w.grownBy w' none → w'.heap.size = w.heap.size + 1 → wpList Tryz.prog ops Q rest (a.put o.dst (.pointer (some ⟨w.heap.size, 0, none⟩))) w') :
    wpList Tryz.prog ops Q (o :: rest) a w := by
  obtain ⟨D, hown, hh, hk⟩ := h
  exact wpList_range_own w hg m 112 hop 115 143 key115 Tryz.underlying112 unitE b n D hm hown fun w' r1 r2 r3 => hK w' _ ⟨D, has D, r1, hh, hk, hh, hk⟩ hown.size_le r2 r3
theorem wpList_nextL (w : World) (hg : o.guard = none) (it : Operand) (hop : o.op = Op.next it false) (b r n cnt : Nat) (K L : Int × Int → Prop) (hit : a.eval it = .pointer (some ⟨r, 0, none⟩)) (h : RangeL w b r n K L cnt)
    (hDone : cnt = 0 → (∀ s, ¬ L s) → wpList Tryz.prog ops Q rest (a.put o.dst (.tuple #[.bool false])) w)
    (hMore : ∀ (p : Int × Int) (w' : World) (cnt' : Nat), L p → K p → RangeL w' b r n K (fun t => L t ∧ t ≠ p) cnt' → cnt' < cnt → w.grownBy w' (some r) → w'.heap.size = w.heap.size →
      (Instr.entry (.pointer (some ⟨r, 0, none⟩))).run Tryz.prog w' = .ok (.tuple #[leadV p, .agg #[]]) w' → wpList Tryz.prog ops Q rest (a.put o.dst (.tuple #[.bool true, leadV p, .agg #[]])) w') :
    wpList Tryz.prog ops Q (o :: rest) a w := by
  obtain ⟨D, left, hr, hh, hk, hl, hlk⟩ := h
  refine wpList_next_ranges w hg it hop 115 key115 unitE leadV (fun _ : Unit => .agg #[]) (fun key kl hk => ⟨_, (lead_inv hk).choose_spec.1⟩) (fun v y hv => ⟨(), (unitElem_inv hv).1⟩) b r n D left cnt hit hr (fun h0 h1 => hDone h0 fun s hs => ?_) fun p c kl y w' cnt' hkl hleft hy hat2 hr2 hlt hgr hsz hen => ?_
  · have := (hl s (hlk s hs)).2 hs
    rw [h1] at this; cases this
  · obtain ⟨p', e1, rfl, hp1, hp2⟩ := lead_inv hkl
    have e2 := leadV_inj e1
    subst e2
    have hKs : K p := (hh p ⟨hp1, hp2⟩).1 (has_true_of_atKey hat2)
    refine hMore p w' cnt' ((hl p ⟨hp1, hp2⟩).1 hleft) hKs ⟨D, _, hr2, hh, hk, fun t ht => ?_, fun t ht => hlk t ht.1⟩ hlt hgr hsz hen
    by_cases e : t = p
    · subst e; simp [WideAt.sameKey_self (leadK_key (p := t) ht)]
    · have : (leadK t).sameKey (leadK p) = false := by
        cases h3 : (leadK t).sameKey (leadK p) with
        | false => rfl
        | true => exact absurd (leadK_inj ht ⟨hp1, hp2⟩ (WideAt.sameKey_eq h3)) e
      simp [this, e, hl t ht]
end Go.Proofs.YtodnlcbnbkkanaaGreatDoor
end
