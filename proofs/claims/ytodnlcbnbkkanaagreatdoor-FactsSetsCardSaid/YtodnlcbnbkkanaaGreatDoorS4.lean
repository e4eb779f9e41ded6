import Derived.Laws.IdiomArrays
import Derived.OpenShut
import Derived.Deep.Slices
import Derived.ProofKit
import Derived.ChangeSame
import Derived.Test.YtodnlcbnbkkanaaGreatDoorS2
import Derived.Test.YtodnlcbnbkkanaaGreatDoorS3
section
namespace Go.Proofs.YtodnlcbnbkkanaaGreatDoor
open Go Go.RowKit Go.Deep Go.ChangeShapes Go.WideShapes

theorem cellsOf4 : Tryz.prog.cellsOf 4 = 1 := by kernel_rfl
theorem cellsOf9 : Tryz.prog.cellsOf 9 = 1 := by kernel_rfl
theorem cellsOf63 : Tryz.prog.cellsOf 63 = 1 := by kernel_rfl
theorem cellsOf58 : Tryz.prog.cellsOf 58 = 1 := by kernel_rfl
theorem cellsOf45 : Tryz.prog.cellsOf 45 = 1 := by kernel_rfl
theorem cellsOf47 : Tryz.prog.cellsOf 47 = 4 := by kernel_rfl
theorem cellsOf22 : Tryz.prog.cellsOf 22 = 1 := by kernel_rfl
theorem cellsOf23 : Tryz.prog.cellsOf 23 = 1 := by kernel_rfl
theorem cellsOf24 : Tryz.prog.cellsOf 24 = 1 := by kernel_rfl
theorem cellsOf25 : Tryz.prog.cellsOf 25 = 1 := by kernel_rfl
theorem cellsOf62 : Tryz.prog.cellsOf 62 = 1 := by kernel_rfl
theorem cellsOf27 : Tryz.prog.cellsOf 27 = 5 := by kernel_rfl
theorem cellsOf65 : Tryz.prog.cellsOf 65 = 7 := by kernel_rfl
theorem cellsOf60 : Tryz.prog.cellsOf 60 = 6 := by kernel_rfl
theorem cellsOf87 : Tryz.prog.cellsOf 87 = 5 := by kernel_rfl

theorem u64_rng {n : Int} (h : (Lit.int .u64 n).wf = true) : 0 ≤ n ∧ n < 18446744073709551616 := by
 have h0 : IntKind.u64.min = 0 := by decide
 have h1 : IntKind.u64.max = 18446744073709551615 := by decide
 simp [Lit.wf] at h
 omega
theorem i64_rng {n : Int} (h : (Lit.int .i64 n).wf = true) : I64 n := by
 have h0 : IntKind.i64.min = -9223372036854775808 := by decide
 have h1 : IntKind.i64.max = 9223372036854775807 := by decide
 simp [Lit.wf] at h
 unfold I64
 omega
theorem mapM_at {α β : Type} (f : α → Option β) : ∀ (l : List α) (ys : List β), l.mapM f = some ys → ∀ (j : Nat) (x : α) (y : β), l[j]? = some x → ys[j]? = some y → f x = some y := by
 intro l
 induction l with
 | nil => intro ys h j x y hx; simp at hx
 | cons a l ih =>
  intro ys h j x y hx hy
  rw [List.mapM_cons] at h
  cases ha : f a with
  | none => rw [ha] at h; cases h
  | some b =>
   rw [ha] at h
   cases hl : l.mapM f with
   | none => rw [hl] at h; cases h
   | some bs =>
    rw [hl] at h
    cases h
    cases j with
    | zero => simp at hx hy; rw [← hx, ← hy]; exact ha
    | succ j => exact ih bs hl j x y (by simpa using hx) (by simpa using hy)

variable {H : Type} {enc : TypeId × Value → H} {w : World} {base : Nat} {spare : Nat → Bool} {held : Bool}

theorem cells_ix {a : Addr} {n : Nat} {cs : List Value} (h : w.cells? base a n = some cs) (j : Nat) (v : Value) (hj : j < n) (hv : cs[j]? = some v) : w.cell? (a.add j) = some v := by
 unfold World.cells? at h
 split at h
 ·exact mapM_at _ _ _ h j j v (by simp [hj]) hv
 ·cases h
theorem trod_fields {P : Program} {t : TypeId} {fs : Array Field} {fuel : Nat} {cs : List Value} {x : DataW H × List MemPlace} (ht : P.underlying t = some (.struct fs)) (h : DataW.trod enc P w base spare held fuel t cs = some x) :
  ∃ n, fuel = n + 1 ∧ cs.length = P.cellsOf t ∧ ∀ (i : Nat) (f : Field), fs.toList[i]? = some f → ∃ y, DataW.trod enc P w base spare held n f.type ((cs.drop f.offset).take (P.cellsOf f.type)) = some y := by
 obtain ⟨xs, n, hn, rfl, hl, hlen, hf⟩ := DataW.trod_struct ht h
 refine ⟨n, hn, hl, fun i f hi' => ?_⟩
 have hi : fs[i]? = some f := by rw [← Array.getElem?_toList]; exact hi'
 have hlt : i < xs.length := by rw [hlen]; exact (Array.getElem?_eq_some_iff.1 hi).1
 exact ⟨xs[i], (hf i f hi).trans (List.getElem?_eq_getElem hlt)⟩
theorem open_u64 {fuel : Nat} {v : Value} {x : DataW H × List MemPlace} (h : DataW.trod enc Tryz.prog w base spare held fuel 45 [v] = some x) : ∃ n : Int, v = .int .u64 n ∧ 0 ≤ n ∧ n < 18446744073709551616 := by
 obtain ⟨n, e, _, hw⟩ := DataW.trod_int Tryz.underlying45 h
 simp at e
 exact ⟨n, e, u64_rng hw⟩
theorem open_i64 {fuel t : Nat} (ht : Tryz.prog.underlying t = some (.int .i64)) {v : Value} {x : DataW H × List MemPlace} (h : DataW.trod enc Tryz.prog w base spare held fuel t [v] = some x) : ∃ n : Int, v = .int .i64 n ∧ I64 n := by
 obtain ⟨n, e, _, hw⟩ := DataW.trod_int ht h
 simp at e
 exact ⟨n, e, i64_rng hw⟩
theorem open_str {fuel : Nat} {v : Value} {x : DataW H × List MemPlace} (h : DataW.trod enc Tryz.prog w base spare held fuel 9 [v] = some x) : ∃ s : ByteArray, v = .string s ∧ s.size ≤ maxLen := by
 obtain ⟨s, e, _, hs⟩ := DataW.trod_string Tryz.underlying9 h
 simp at e
 exact ⟨s, e, hs⟩
theorem open_bl {fuel : Nat} {v : Value} {x : DataW H × List MemPlace} (h : DataW.trod enc Tryz.prog w base spare held fuel 4 [v] = some x) : ∃ s : Bool, v = .bool s := by
 obtain ⟨s, e, _⟩ := DataW.trod_bool Tryz.underlying4 h
 simp at e
 exact ⟨s, e⟩

set_option maxRecDepth 100000 in
theorem st_open {fuel : Nat} {cs : List Value} {x : DataW H × List MemPlace} (h : DataW.trod enc Tryz.prog w base spare held fuel 47 cs = some x) :
  ∃ s : BS, cs = [.int .u64 (wdI s 0), .int .u64 (wdI s 1), .int .u64 (wdI s 2), .int .u64 (wdI s 3)] := by
 obtain ⟨_, _, _, _, hl, _⟩ := DataW.trod_array Tryz.underlying47 h
 rw [cellsOf47] at hl
 match cs, hl with
 | [a, b, c, d], _ =>
  obtain ⟨_, _, _, _, n, _, h0, h1, h2, h3⟩ := trod_array4 Tryz.underlying47 cellsOf45 h
  obtain ⟨a, rfl, ra⟩ := open_u64 h0
  obtain ⟨b, rfl, rb⟩ := open_u64 h1
  obtain ⟨c, rfl, rc⟩ := open_u64 h2
  obtain ⟨d, rfl, rd⟩ := open_u64 h3
  obtain ⟨s, rfl, rfl, rfl, rfl⟩ := set_of_words a b c d ra rb rc rd
  exact ⟨s, rfl⟩

theorem row_open {α : Type} [Inhabited α] {T E k : Nat} {cs : α → Array Value} {G : α → Prop} {GW : World → α → Prop} (hT : Tryz.prog.underlying T = some (.slice E)) (hk : Tryz.prog.cellsOf E = k) (hk0 : 0 < k) (hcs : ∀ x, (cs x).size = k) {fuel : Nat} {a : Option Addr} {len cap : Nat} {x : DataW H × List MemPlace}
  (h : DataW.trod enc Tryz.prog w base spare held fuel T [.slice a len cap] = some x) (hG : ∀ y, G y → GW w y) (ho : ∀ (n : Nat) (c : List Value) (y : DataW H × List MemPlace), n < fuel → DataW.trod enc Tryz.prog w base spare held n E c = some y → ∃ z : α, c = (cs z).toList ∧ G z) :
  ∃ d : List α, d.length = len ∧ RowOf k cs GW w a d ∧ (∀ y ∈ d, G y) ∧ len ≤ cap ∧ cap ≤ maxLen ∧ (a = none → cap = 0) := by
 rcases DataW.trod_slice hT h with ⟨h0, _⟩ | ⟨a', len', cap', elems, rest, n, hn, hcs', _, hb, hl, hm, hlen, hel, _, _⟩
 ·simp at h0
  obtain ⟨rfl, rfl, rfl⟩ := h0
  exact ⟨[], rfl, RowOf.nil _, fun x hx => by simp at hx, Nat.le_refl _, by unfold maxLen; omega, fun _ => rfl⟩
 ·simp at hcs'
  obtain ⟨rfl, rfl, rfl⟩ := hcs'
  have hall : ∀ i, i < len → ∃ y : α, (∀ j v, j < k → (cs y).toList[j]? = some v → w.cell? ((a'.add (i * k)).add j) = some v) ∧ G y := by
   intro i hi
   have he := hel i hi
   rw [List.getElem?_eq_getElem (by omega), hk] at he
   cases hc : w.cells? base (a'.add (i * k)) k with
   | none => rw [hc] at he; cases he
   | some c =>
    rw [hc] at he
    obtain ⟨y, rfl, hy⟩ := ho n c _ (by omega) he
    exact ⟨y, fun j v hj hv => cells_ix hc j v hj hv, hy⟩
  obtain ⟨f, hf⟩ := choose_lt hall
  have hget : ∀ i x, ((List.range len).map f)[i]? = some x → i < len ∧ f i = x := by
   intro i x hx
   have hi : i < len := by
    have := (List.getElem?_eq_some_iff.1 hx).1
    simpa using this
   rw [List.getElem?_map, List.getElem?_range hi] at hx
   exact ⟨hi, by simpa using hx⟩
  refine ⟨(List.range len).map f, by simp, ?_, ?_, hl, hm, fun e => by cases e⟩
  ·intro i x hx
   obtain ⟨hi, hx'⟩ := hget i x hx
   have q := (hf i hi).1
   rw [hx'] at q
   have hspot : a'.spot = none := by
    have hz : 0 < (cs (f 0)).toList.length := by rw [Array.length_toList, hcs]; exact hk0
    have h0 := (hf 0 (by omega)).1 0 _ hk0 (List.getElem?_eq_getElem hz)
    rw [Nat.zero_mul] at h0
    have e0 : (a'.add 0).add 0 = a' := rfl
    rw [e0] at h0
    exact World.cell?_spot h0
   obtain ⟨b, off, spot⟩ := a'
   simp only at hspot
   subst hspot
   have hc : CellsAt w b (off + i * k) (cs x) := fun j v hv => by
    have hj : j < k := by
     have := (Array.getElem?_eq_some_iff.1 hv).1
     rw [hcs] at this; exact this
    have h := q j v hj (by rw [Array.getElem?_toList]; exact hv)
    rw [add_off, add_off] at h
    exact h
   refine ⟨b, off, rfl, hc.lt (by rw [hcs]; exact hk0), hc, hG x ?_⟩
   rw [← hx']
   exact (hf i hi).2
  ·intro x hx
   obtain ⟨i, hi⟩ := List.mem_iff_getElem?.1 hx
   obtain ⟨hi', rfl⟩ := hget i x hi
   exact (hf i hi').2

def ASym (s : SymM) : Prop := I64 s.kind ∧ I64 s.sort
structure AProd (w : World) (p : ProdM) : Prop where
 inn : ProdIn w p
 left : I64 p.left
 role : I64 p.role
 frm : I64 p.frm
 cons : p.cons.size ≤ maxLen
 syms : ∀ s, s ∈ p.right → ASym s
 len : p.right.length ≤ p.rc
 cap : p.rc ≤ maxLen
 nil : p.ra = none → p.rc = 0
structure AGram (w : World) (g : GramM) : Prop where
 inn : GIn w g
 start : I64 g.start
 names : ∀ s, s ∈ g.sorts → s.size ≤ maxLen
 prods : ∀ p, p ∈ g.prods → AProd w p
 forb : ∀ f, f ∈ g.forbid → FitF f
 fol : ∀ f, f ∈ g.follow → I64 f.sort
 sl : g.sorts.length ≤ g.sc
 sc : g.sc ≤ maxLen
 sn : g.sa = none → g.sc = 0
 pl : g.prods.length ≤ g.pc
 pc : g.pc ≤ maxLen
 pn : g.pa = none → g.pc = 0
 fl : g.forbid.length ≤ g.fc
 fc : g.fc ≤ maxLen
 fn : g.fa = none → g.fc = 0
 wl : g.follow.length ≤ g.wc
 wc : g.wc ≤ maxLen
 wn : g.wa = none → g.wc = 0

instance : Inhabited SymM := ⟨⟨0, 0#256, 0⟩⟩
instance : Inhabited ProdM := ⟨⟨0, none, 0, [], ⟨#[]⟩, 0, false, false, 0⟩⟩
instance : Inhabited ForM := ⟨⟨0, 0, 0⟩⟩
instance : Inhabited FolM := ⟨⟨0, 0#256⟩⟩
instance : Inhabited TreeM := ⟨.node 0 0 none 0 []⟩

set_option maxRecDepth 100000 in
theorem sym_open {fuel : Nat} {cs : List Value} {x : DataW H × List MemPlace} (h : DataW.trod enc Tryz.prog w base spare held fuel 60 cs = some x) : ∃ y : SymM, cs = (symC y).toList ∧ ASym y := by
 obtain ⟨n, _, hl, hf⟩ := trod_fields Tryz.underlying60 h
 obtain ⟨_, h0⟩ := hf 0 _ rfl
 obtain ⟨_, h1⟩ := hf 1 _ rfl
 obtain ⟨_, h2⟩ := hf 2 _ rfl
 rw [cellsOf60] at hl
 match cs, hl with
 | [a, b0, b1, b2, b3, c], _ =>
  simp only [cellsOf3, cellsOf58, cellsOf47, List.drop_zero, List.take_succ_cons, List.take_zero, List.drop_succ_cons] at h0 h1 h2
  obtain ⟨kd, rfl, r0⟩ := open_i64 Tryz.underlying58 h0
  obtain ⟨st, hst⟩ := st_open h1
  simp at hst
  obtain ⟨rfl, rfl, rfl, rfl⟩ := hst
  obtain ⟨so, rfl, r2⟩ := open_i64 Tryz.underlying3 h2
  exact ⟨⟨kd, st, so⟩, rfl, r0, r2⟩
set_option maxRecDepth 100000 in
theorem for_open {fuel : Nat} {cs : List Value} {x : DataW H × List MemPlace} (h : DataW.trod enc Tryz.prog w base spare held fuel 85 cs = some x) : ∃ y : ForM, cs = (forC y).toList ∧ FitF y := by
 obtain ⟨n, _, hl, hf⟩ := trod_fields Tryz.underlying85 h
 obtain ⟨_, h0⟩ := hf 0 _ rfl
 obtain ⟨_, h1⟩ := hf 1 _ rfl
 obtain ⟨_, h2⟩ := hf 2 _ rfl
 rw [cellsOf85] at hl
 match cs, hl with
 | [a, b, c], _ =>
  simp only [cellsOf3, List.drop_zero, List.take_succ_cons, List.take_zero, List.drop_succ_cons] at h0 h1 h2
  obtain ⟨x0, rfl, r0⟩ := open_i64 Tryz.underlying3 h0
  obtain ⟨x1, rfl, r1⟩ := open_i64 Tryz.underlying3 h1
  obtain ⟨x2, rfl, r2⟩ := open_i64 Tryz.underlying3 h2
  exact ⟨⟨x0, x1, x2⟩, rfl, ⟨r0, r1, r2⟩⟩
set_option maxRecDepth 100000 in
theorem fol_open {fuel : Nat} {cs : List Value} {x : DataW H × List MemPlace} (h : DataW.trod enc Tryz.prog w base spare held fuel 87 cs = some x) : ∃ y : FolM, cs = (folC y).toList ∧ I64 y.sort := by
 obtain ⟨n, _, hl, hf⟩ := trod_fields Tryz.underlying87 h
 obtain ⟨_, h0⟩ := hf 0 _ rfl
 obtain ⟨_, h1⟩ := hf 1 _ rfl
 rw [cellsOf87] at hl
 match cs, hl with
 | [a, b0, b1, b2, b3], _ =>
  simp only [cellsOf3, cellsOf47, List.drop_zero, List.take_succ_cons, List.take_zero, List.drop_succ_cons] at h0 h1
  obtain ⟨so, rfl, r0⟩ := open_i64 Tryz.underlying3 h0
  obtain ⟨st, hst⟩ := st_open h1
  simp at hst
  obtain ⟨rfl, rfl, rfl, rfl⟩ := hst
  exact ⟨⟨so, st⟩, rfl, r0⟩
theorem name_open {fuel : Nat} {cs : List Value} {x : DataW H × List MemPlace} (h : DataW.trod enc Tryz.prog w base spare held fuel 9 cs = some x) : ∃ y : ByteArray, cs = (strC y).toList ∧ y.size ≤ maxLen := by
 obtain ⟨s, e, _, hs⟩ := DataW.trod_string Tryz.underlying9 h
 exact ⟨s, e, hs⟩
set_option maxRecDepth 100000 in
theorem prod_open {fuel : Nat} {cs : List Value} {x : DataW H × List MemPlace} (h : DataW.trod enc Tryz.prog w base spare held fuel 65 cs = some x) : ∃ y : ProdM, cs = (prodC y).toList ∧ AProd w y := by
 obtain ⟨n, _, hl, hf⟩ := trod_fields Tryz.underlying65 h
 obtain ⟨_, h0⟩ := hf 0 _ rfl
 obtain ⟨_, h1⟩ := hf 1 _ rfl
 obtain ⟨_, h2⟩ := hf 2 _ rfl
 obtain ⟨_, h3⟩ := hf 3 _ rfl
 obtain ⟨_, h4⟩ := hf 4 _ rfl
 obtain ⟨_, h5⟩ := hf 5 _ rfl
 obtain ⟨_, h6⟩ := hf 6 _ rfl
 rw [cellsOf65] at hl
 match cs, hl with
 | [a, b, c, d, e, f, g], _ =>
  simp only [cellsOf3, cellsOf4, cellsOf9, cellsOf62, cellsOf63, List.drop_zero, List.take_succ_cons, List.take_zero, List.drop_succ_cons] at h0 h1 h2 h3 h4 h5 h6
  obtain ⟨x0, rfl, r0⟩ := open_i64 Tryz.underlying3 h0
  obtain ⟨ra, len, rc, rfl⟩ : ∃ ra len rc, b = .slice ra len rc := by
   rcases DataW.trod_slice Tryz.underlying62 h1 with ⟨e0, _⟩ | ⟨_, _, _, _, _, _, _, e0, _⟩
   ·simp at e0; exact ⟨_, _, _, e0⟩
   ·simp at e0; exact ⟨_, _, _, e0⟩
  obtain ⟨dd, rfl, q1, q2, q3, q4, q5⟩ := row_open (k := 6) (cs := symC) (G := ASym) (GW := NoG) Tryz.underlying62 cellsOf60 (by omega) (fun _ => rfl) h1 (fun _ _ => trivial) (fun _ _ _ _ h => sym_open h)
  obtain ⟨s, rfl, hs⟩ := open_str h2
  obtain ⟨x3, rfl, r3⟩ := open_i64 Tryz.underlying63 h3
  obtain ⟨x4, rfl⟩ := open_bl h4
  obtain ⟨x5, rfl⟩ := open_bl h5
  obtain ⟨x6, rfl, r6⟩ := open_i64 Tryz.underlying3 h6
  exact ⟨⟨x0, ra, rc, dd, s, x3, x4, x5, x6⟩, rfl, ⟨q1, r0, r3, r6, hs, q2, q3, q4, q5⟩⟩
set_option maxRecDepth 100000 in
theorem gram_open {fuel : Nat} {cs : List Value} {x : DataW H × List MemPlace} (h : DataW.trod enc Tryz.prog w base spare held fuel 27 cs = some x) : ∃ y : GramM, cs = (gramC y).toList ∧ AGram w y := by
 obtain ⟨n, _, hl, hf⟩ := trod_fields Tryz.underlying27 h
 obtain ⟨_, h0⟩ := hf 0 _ rfl
 obtain ⟨_, h1⟩ := hf 1 _ rfl
 obtain ⟨_, h2⟩ := hf 2 _ rfl
 obtain ⟨_, h3⟩ := hf 3 _ rfl
 obtain ⟨_, h4⟩ := hf 4 _ rfl
 rw [cellsOf27] at hl
 match cs, hl with
 | [a, b, c, d, e], _ =>
  simp only [cellsOf3, cellsOf22, cellsOf23, cellsOf24, cellsOf25, List.drop_zero, List.take_succ_cons, List.take_zero, List.drop_succ_cons] at h0 h1 h2 h3 h4
  have sl : ∀ {T E : Nat} {v : Value} {m : Nat} {x : DataW H × List MemPlace}, Tryz.prog.underlying T = some (.slice E) → DataW.trod enc Tryz.prog w base spare held m T [v] = some x → ∃ ra len rc, v = .slice ra len rc := by
   intro T E v m x hT hx
   rcases DataW.trod_slice hT hx with ⟨e0, _⟩ | ⟨_, _, _, _, _, _, _, e0, _⟩
   ·simp at e0; exact ⟨_, _, _, e0⟩
   ·simp at e0; exact ⟨_, _, _, e0⟩
  obtain ⟨sa, slen, sc, rfl⟩ := sl Tryz.underlying22 h0
  obtain ⟨ds, rfl, s1, s2, s3, s4, s5⟩ := row_open (k := 1) (cs := strC) (G := fun s => s.size ≤ maxLen) (GW := NoG) Tryz.underlying22 cellsOf9 (by omega) (fun _ => rfl) h0 (fun _ _ => trivial) (fun _ _ _ _ h => name_open h)
  obtain ⟨pa, plen, pc, rfl⟩ := sl Tryz.underlying23 h1
  obtain ⟨dp, rfl, p1, p2, p3, p4, p5⟩ := row_open (k := 7) (cs := prodC) (G := AProd w) (GW := ProdIn) Tryz.underlying23 cellsOf65 (by omega) (fun _ => rfl) h1 (fun _ h => h.inn) (fun _ _ _ _ h => prod_open h)
  obtain ⟨st, rfl, r2⟩ := open_i64 Tryz.underlying3 h2
  obtain ⟨fa, flen, fc, rfl⟩ := sl Tryz.underlying24 h3
  obtain ⟨df, rfl, f1, f2, f3, f4, f5⟩ := row_open (k := 3) (cs := forC) (G := FitF) (GW := NoG) Tryz.underlying24 cellsOf85 (by omega) (fun _ => rfl) h3 (fun _ _ => trivial) (fun _ _ _ _ h => for_open h)
  obtain ⟨wa, wlen, wc, rfl⟩ := sl Tryz.underlying25 h4
  obtain ⟨dw, rfl, w1, w2, w3, w4, w5⟩ := row_open (k := 5) (cs := folC) (G := fun f => I64 f.sort) (GW := NoG) Tryz.underlying25 cellsOf87 (by omega) (fun _ => rfl) h4 (fun _ _ => trivial) (fun _ _ _ _ h => fol_open h)
  exact ⟨⟨sa, sc, ds, pa, pc, dp, st, fa, fc, df, wa, wc, dw⟩, rfl, ⟨⟨s1, p1, f1, w1⟩, r2, s2, p2, f2, w2, s3, s4, s5, p3, p4, p5, f3, f4, f5, w3, w4, w5⟩⟩

def ATree (w : World) : Nat → TreeM → Prop
 | 0, _ => True
 | d + 1, .node p b ka kc kids => I64 p ∧ (0 ≤ b ∧ b < 256) ∧ kids.length ≤ kc ∧ kc ≤ maxLen ∧ (ka = none → kc = 0) ∧ ∀ k, k ∈ kids → ATree w d k
end Go.Proofs.YtodnlcbnbkkanaaGreatDoor
end
section
namespace Go.Proofs.YtodnlcbnbkkanaaGreatDoor
open Go Go.RowKit

def vastP (p : ProdM) : Bool := decide (40 < p.right.length) || decide (1500 < p.cons.size)
def vastB (g : GramM) : Bool := decide (40 < g.sorts.length) || (decide (60 < g.prods.length) || (decide (40 < g.forbid.length) || (decide (40 < g.follow.length) || (g.sorts.any (fun s => decide (1500 < s.size)) || g.prods.any vastP))))

theorem any_yes {α : Type} {p : α → Bool} {l : List α} {i : Nat} {x : α} (h : l[i]? = some x) (hp : p x = true) : l.any p = true := List.any_eq_true.2 ⟨x, List.mem_of_getElem? h, hp⟩
theorem any_no {α : Type} {p : α → Bool} {l : List α} (h : ∀ (i : Nat) (x : α), l[i]? = some x → p x = false) : l.any p = false := by
 rw [List.any_eq_false]
 intro x hx
 obtain ⟨i, hi⟩ := List.mem_iff_getElem?.1 hx
 simp [h i x hi]
end Go.Proofs.YtodnlcbnbkkanaaGreatDoor
end
