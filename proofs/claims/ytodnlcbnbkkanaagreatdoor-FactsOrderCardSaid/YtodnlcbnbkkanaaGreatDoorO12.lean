import Derived.BigQuiet
import Derived.Deep.QuietTactic
import Derived.Test.YtodnlcbnbkkanaaGreatDoorO5
import Derived.Test.YtodnlcbnbkkanaaGreatDoorO8
import Derived.Test.YtodnlcbnbkkanaaGreatDoorO9
import Derived.Test.YtodnlcbnbkkanaaGreatDoorO11
section
namespace Go.Proofs.YtodnlcbnbkkanaaGreatDoor
open Go Go.RowKit

structure SameG (g h : GramM) : Prop where
  sorts : h.sorts.length = g.sorts.length
  start : h.start = g.start
  prods : ∀ x, x ∈ h.prods ↔ x ∈ g.prods
theorem SameG.symm {g h : GramM} (H : SameG g h) : SameG h g := ⟨H.sorts.symm, H.start.symm, fun x => (H.prods x).symm⟩
theorem SameG.txw {g h : GramM} (H : SameG g h) {k : Nat} {t : List UInt8} (ht : TX g k t) : TX h k t :=
  TX.ind (P := fun k t => TX h k t) (fun x t hx hr _ ih => TX.mk ((H.prods x).2 hx) hr ih) ht
theorem SameG.tx {g h : GramM} (H : SameG g h) : TX g = TX h := funext fun k => funext fun t => propext ⟨H.txw, H.symm.txw⟩
theorem SameG.pvw {g h : GramM} (H : SameG g h) {k : Nat} (hp : PV g k) : PV h k := by
  induction hp with
  | mk x hx hr _ ih => exact PV.mk x ((H.prods x).2 hx) hr ih
theorem SameG.live {g h : GramM} (H : SameG g h) {L : List Bool} (hL : Live g L) : Live h L :=
  ⟨hL.1.trans H.sorts.symm, fun k => (hL.2 k).trans ⟨H.pvw, H.symm.pvw⟩⟩
theorem SameG.null {g h : GramM} (H : SameG g h) {M : List Bool} (hM : NullP g M) : NullP h M :=
  ⟨hM.1.trans H.sorts.symm, fun k => by rw [hM.2 k, H.tx]⟩
theorem SameG.short {g h : GramM} (H : SameG g h) {S : List Int} (hS : ShortP g S) : ShortP h S :=
  ⟨hS.1.trans H.sorts.symm, fun k n hk => by have := hS.2 k n hk; rw [H.tx] at this; exact this⟩
theorem SameG.first {g h : GramM} (H : SameG g h) {F : List BS} (hF : FirstP g F) : FirstP h F :=
  ⟨hF.1.trans H.sorts.symm, fun k s hk b => by rw [hF.2 k s hk b, H.tx]⟩
theorem SameG.ctxw {g h : GramM} (H : SameG g h) {k : Nat} {u : List UInt8} (hc : Ctx g k u) : Ctx h k u := by
  induction hc with
  | start e => rw [← H.start]; exact Ctx.start (by rw [H.start, ← H.tx]; exact e)
  | step hx hr hy hi hk _ hv ih => exact Ctx.step ((H.prods _).2 hx) hr (by rw [← H.tx]; exact hy) hi hk ih (by rw [← H.tx]; exact hv)
theorem SameG.ctx {g h : GramM} (H : SameG g h) : Ctx g = Ctx h := funext fun k => funext fun t => propext ⟨H.ctxw, H.symm.ctxw⟩
theorem SameG.back {g h : GramM} (H : SameG g h) {B : List BackM} (hB : BackP g B) : BackP h B :=
  ⟨hB.1.trans H.sorts.symm, fun k b hk => by have := hB.2 k b hk; rw [H.ctx] at this; exact this⟩
theorem SameG.follow {g h : GramM} (H : SameG g h) {F : List BS} (hF : FollowP g F) : FollowP h F :=
  let ⟨B, h1, h2⟩ := hF; ⟨B, H.back h1, h2⟩
theorem SameG.lead {g h : GramM} (H : SameG g h) {M L : List Bool} {k t : Nat} (hl : LeadE g M L k t) : LeadE h M L k t := by
  obtain ⟨j, i, x, hx, _, hX⟩ := hl
  have hm := List.mem_of_getElem? hx
  have hm' : x ∈ livL h L := livL_mem.2 ⟨(H.prods x).2 (livL_mem.1 hm).1, (livL_mem.1 hm).2⟩
  obtain ⟨j', hj', e⟩ := List.mem_iff_getElem.1 hm'
  exact ⟨j', i, x, by rw [List.getElem?_eq_getElem hj', e], .inl hj', hX⟩
theorem far_imp {E E' : Nat → Nat → Prop} (h : ∀ a b, E a b → E' a b) {a b : Nat} (hf : Far E a b) : Far E' a b := by
  induction hf with
  | one e => exact .one (h _ _ e)
  | more _ e ih => exact ih.more (h _ _ e)
theorem SameG.circ {g h : GramM} (H : SameG g h) {R : List Bool} (hR : CircP g R) : CircP h R := by
  obtain ⟨h1, M, L, hM, hL, h2⟩ := hR
  refine ⟨h1.trans H.sorts.symm, M, L, H.null hM, H.live hL, fun k hk => ?_⟩
  rw [h2 k (by rw [← H.sorts]; exact hk)]
  exact ⟨far_imp fun a b => H.lead, far_imp fun a b => H.symm.lead⟩
theorem SameG.lt {g h : GramM} (H : SameG g h) {k : Nat} {t : List UInt8} (ht : LT g k t) : LT h k t := by
  unfold LT at *; rw [← H.tx]; exact ht
theorem SameG.circ_eq {g h : GramM} (H : SameG g h) {R R' : List Bool} (hR : CircP g R) (hR' : CircP h R') : R = R' := by
  obtain ⟨h1, M, L, hM, hL, h2⟩ := H.circ hR
  obtain ⟨h1', M', L', hM', hL', h2'⟩ := hR'
  obtain rfl := hM.unique hM'
  obtain rfl := hL.unique hL'
  refine List.ext_getElem (h1.trans h1'.symm) fun k a b => ?_
  have e := (h2 k (by omega)).trans (h2' k (by omega)).symm
  rw [List.getElem?_eq_getElem a, List.getElem?_eq_getElem b] at e
  simp only [Option.some.injEq] at e
  exact Bool.eq_iff_iff.2 e

def dbl (l : List ProdM) (k : Nat) : List ProdM := (l.drop k).reverse.flatMap fun x => [x, x]
theorem dbl_step {l : List ProdM} {k : Nat} {x : ProdM} (h : l[k]? = some x) : dbl l k = dbl l (k + 1) ++ [x, x] := by
  obtain ⟨hk, e⟩ := List.getElem?_eq_some_iff.1 h
  unfold dbl
  rw [List.drop_eq_getElem_cons hk, e, List.reverse_cons, List.flatMap_append]
  simp
theorem dbl_len (l : List ProdM) (k : Nat) (h : k ≤ l.length) : (dbl l k).length = 2 * (l.length - k) := by
  unfold dbl
  rw [List.length_flatMap]
  simp only [List.length_cons, List.length_nil, List.map_reverse, List.sum_reverse]
  rw [show (fun x : ProdM => 0 + 1 + 1) = fun _ => 2 from rfl, List.map_const', List.sum_replicate_nat, List.length_drop]
  omega
theorem dbl_mem (l : List ProdM) (x : ProdM) : x ∈ dbl l 0 ↔ x ∈ l := by
  unfold dbl
  simp [List.mem_flatMap]
theorem dbl_end (l : List ProdM) : dbl l l.length = [] := by unfold dbl; simp
end Go.Proofs.YtodnlcbnbkkanaaGreatDoor
end
section
namespace Go.Proofs.YtodnlcbnbkkanaaGreatDoor
open Go Go.RowKit Go.Vals

def gN (g : GramM) : GramM := { g with fa := none, fc := 0, forbid := [] }
theorem GIn.gN {w : World} {g : GramM} (h : GIn w g) : GIn w (gN g) := ⟨h.sorts, h.prods, RowOf.nil _, h.follow⟩
theorem AGram.gN {w : World} {g : GramM} (h : AGram w g) : AGram w (gN g) :=
  ⟨h.inn.gN, h.start, h.names, h.prods, (fun f hf => by cases hf), h.fol, h.sl, h.sc, h.sn, h.pl, h.pc, h.pn, Nat.le_refl _, Nat.zero_le _, fun _ => rfl, h.wl, h.wc, h.wn⟩
def gT (g : GramM) (a : Option Addr) (c : Nat) : GramM := { gN g with pa := a, pc := c, prods := dbl g.prods 0 }
theorem sameT (g : GramM) (a : Option Addr) (c : Nat) : SameG (gN g) (gT g a c) := ⟨rfl, rfl, dbl_mem g.prods⟩
theorem any_dbl (l : List ProdM) (q : ProdM → Bool) : (dbl l 0).all q = l.all q := by
  rw [Bool.eq_iff_iff, List.all_eq_true, List.all_eq_true]
  exact ⟨fun h x hx => h x ((dbl_mem l x).2 hx), fun h x hx => h x ((dbl_mem l x).1 hx)⟩
theorem checkT (g : GramM) (a : Option Addr) (c : Nat) (hn : g.prods.length ≤ 40) : checkB (gT g a c) = checkB (gN g) := by
  have h1 : prodsB (gT g a c) = prodsB (gN g) := by
    unfold prodsB
    show (decide ((dbl g.prods 0).length ≤ 1000) && (dbl g.prods 0).all _) = (decide (g.prods.length ≤ 1000) && g.prods.all _)
    rw [any_dbl, dbl_len g.prods 0 (Nat.zero_le _), decide_eq_true (by omega), decide_eq_true (by omega)]
    rfl
  unfold checkB
  rw [h1]
  rfl
theorem fitT {g : GramM} (h : FitG (gN g)) (a : Option Addr) (c : Nat) (hn : g.prods.length ≤ 40) : FitG (gT g a c) :=
  ⟨⟨h.fit.sorts, (by show (dbl g.prods 0).length ≤ _; rw [dbl_len g.prods 0 (Nat.zero_le _)]; omega), (fun x hx => h.fit.right x ((dbl_mem g.prods x).1 hx)), h.fit.forbid, h.fit.follow, h.fit.at_, h.fit.names⟩, h.forb, h.fol⟩
theorem inT {W : World} {g : GramM} (h : GIn W g) {a : Option Addr} (c : Nat) (hr : RowProd W a (dbl g.prods 0)) : GIn W (gT g a c) := ⟨h.sorts, hr, RowOf.nil _, h.follow⟩

def GoodSets (W : World) (n : Nat) (R : List BS → Prop) (e : Ending) (w' : World) : Prop := ∃ (F : List BS) (B c : Nat) (cs : Array Value), R F ∧ F.length = n ∧ e = .returned (.tuple #[.slice (some ⟨B, 0, none⟩) n c, .int .i64 0]) ∧ Blk w' B 47 cs ∧ (∀ (k : Nat) (s : BS), F[k]? = some s → SetAt cs (k * 4) s) ∧ Below W.heap.size W w'
def GoodInts (W : World) (n : Nat) (R : List Int → Prop) (e : Ending) (w' : World) : Prop := ∃ (S : List Int) (B c : Nat), R S ∧ S.length = n ∧ e = .returned (.tuple #[.slice (some ⟨B, 0, none⟩) n c, .int .i64 0]) ∧ RowInt w' (some ⟨B, 0, none⟩) S ∧ Below W.heap.size W w'
def GoodMarks (W : World) (n : Nat) (R : List Bool → Prop) (e : Ending) (w' : World) : Prop := ∃ (M : List Bool) (B : Nat), R M ∧ M.length = n ∧ e = .returned (.tuple #[.slice (some ⟨B, 0, none⟩) n n, .int .i64 0]) ∧ Blk w' B 4 (bools M) ∧ Below W.heap.size W w'
def GoodSamp (W : World) (g : GramM) (k : Nat) (e : Ending) (w' : World) : Prop := ∃ t, LT g k t ∧ e = .returned (.tuple #[.string (bs t), .int .i64 0]) ∧ Below W.heap.size W w'
theorem TellSets.good {W w' : World} {g : GramM} {R R' : List BS → Prop} {e : Ending} {n : Nat} (h : TellSets W g R e w') (hc : checkB g = true) (hi : ∀ F, R F → R' F) (hl : ∀ F, R F → F.length = n) : GoodSets W n R' e w' := by
  obtain ⟨hB, ⟨h0, _⟩ | ⟨_, F, B, c, cs, hR, _, rfl, _, hk, hat⟩⟩ := h
  · rw [hc] at h0; cases h0
  · exact ⟨F, B, c, cs, hi F hR, hl F hR, by rw [hl F hR], hk, hat, hB⟩
theorem ShortTell.good {W w' : World} {g : GramM} {R' : List Int → Prop} {e : Ending} {n : Nat} (h : ShortTell W g e w') (hc : checkB g = true) (hi : ∀ F, ShortP g F → R' F) (hl : g.sorts.length = n) : GoodInts W n R' e w' := by
  obtain ⟨hB, ⟨h0, _⟩ | ⟨_, S, B, c, hR, rfl, _, hk⟩⟩ := h
  · rw [hc] at h0; cases h0
  · exact ⟨S, B, c, hi S hR, hR.1.trans hl, by rw [hR.1, hl], hk, hB⟩
theorem TellPost.good {W w' : World} {g : GramM} {R R' : List Bool → Prop} {e : Ending} {n : Nat} (h : TellPost W g R e w') (hc : checkB g = true) (hi : ∀ F, R F → R' F) (hl : ∀ F, R F → F.length = n) : GoodMarks W n R' e w' := by
  obtain ⟨hB, ⟨h0, _⟩ | ⟨_, M, B, hR, rfl, _, hk⟩⟩ := h
  · rw [hc] at h0; cases h0
  · exact ⟨M, B, hi M hR, hl M hR, by rw [hl M hR], hk, hB⟩
theorem SampTell.good {W w' : World} {g g' : GramM} {k : Nat} {e : Ending} {S : List Int} (h : SampTell W g k e w') (hc : checkB g = true) (H : SameG g g') (hS : ShortP g S) (hk : k < g.sorts.length) (h0 : 0 ≤ gi S k) (h1 : gi S k ≤ 2000) : GoodSamp W g' k e w' := by
  obtain ⟨hB, ⟨h2, _⟩ | ⟨_, ⟨h2, _⟩ | ⟨_, S', hS', h3⟩⟩⟩ := h
  · rw [hc] at h2; cases h2
  · unfold numB at h2
    simp at h2
    omega
  · obtain rfl := hS.unique hS'
    rcases h3 with ⟨h3, _⟩ | ⟨h3, _⟩ | ⟨_, _, t, ht, rfl⟩
    · omega
    · omega
    · exact ⟨t, by rw [Int.toNat_natCast] at ht; exact H.lt ht, rfl, hB⟩

structure Asks (g : GramM) (w : World) (n : Nat) : Prop where
  first : ∀ W, Below w.heap.size w W → Calls Tryz.prog 22 #[gramV (gN g)] W (GoodSets W n (FirstP (gN g)))
  follow : ∀ W, Below w.heap.size w W → Calls Tryz.prog 23 #[gramV (gN g)] W (GoodSets W n (FollowP (gN g)))
  short : ∀ W, Below w.heap.size w W → Calls Tryz.prog 28 #[gramV (gN g)] W (GoodInts W n (ShortP (gN g)))
  circ : ∀ W, Below w.heap.size w W → Calls Tryz.prog 16 #[gramV (gN g)] W (GoodMarks W n (CircP (gN g)))
  samp : ∀ S, ShortP (gN g) S → ∀ k : Nat, k < n → 0 ≤ gi S k → gi S k ≤ 2000 → ∀ W, Below w.heap.size w W → Calls Tryz.prog 29 #[gramV (gN g), .int .i64 (k : Int)] W (GoodSamp W (gN g) k)
  firstT : ∀ a c W, Below w.heap.size w W → RowProd W a (dbl g.prods 0) → Calls Tryz.prog 22 #[gramV (gT g a c)] W (GoodSets W n (FirstP (gN g)))
  followT : ∀ a c W, Below w.heap.size w W → RowProd W a (dbl g.prods 0) → Calls Tryz.prog 23 #[gramV (gT g a c)] W (GoodSets W n (FollowP (gN g)))
  shortT : ∀ a c W, Below w.heap.size w W → RowProd W a (dbl g.prods 0) → Calls Tryz.prog 28 #[gramV (gT g a c)] W (GoodInts W n (ShortP (gN g)))
  circT : ∀ a c W, Below w.heap.size w W → RowProd W a (dbl g.prods 0) → Calls Tryz.prog 16 #[gramV (gT g a c)] W (GoodMarks W n (CircP (gN g)))
  sampT : ∀ S, ShortP (gN g) S → ∀ k : Nat, k < n → 0 ≤ gi S k → gi S k ≤ 2000 → ∀ a c W, Below w.heap.size w W → RowProd W a (dbl g.prods 0) → Calls Tryz.prog 29 #[gramV (gT g a c), .int .i64 (k : Int)] W (GoodSamp W (gN g) k)
theorem asks_of (g : GramM) (w : World) (hg : AGram w g) (hT : TabAt 1 Lib.deBruijn64tab w) (hf : FitG (gN g)) (hc : checkB (gN g) = true) (hn : g.prods.length ≤ 40) : Asks g w g.sorts.length := by
  have hi : ∀ W, Below w.heap.size w W → GIn W (gN g) := fun W hW => hg.gN.inn.below hW
  have hfT : ∀ a c, FitG (gT g a c) := fun a c => fitT hf a c hn
  have hcT : ∀ a c, checkB (gT g a c) = true := fun a c => by rw [checkT g a c hn]; exact hc
  have hiT : ∀ a c W, Below w.heap.size w W → RowProd W a (dbl g.prods 0) → GIn W (gT g a c) := fun a c W hW hr => inT (hg.inn.below hW) c hr
  have hs : ∀ a c, SameG (gT g a c) (gN g) := fun a c => (sameT g a c).symm
  have lF : ∀ F, FollowP (gN g) F → F.length = g.sorts.length := fun F ⟨B, h1, h2⟩ => by rw [h2, List.length_map]; exact h1.1
  have hL : ∀ (h : GramM) (S S' : List Int) (k : Nat), ShortP h S → gi S k ≤ 2000 → ShortP h S' → gi S' k ≤ 4096 ∨ gi S' k = 1048577 := fun h S S' k h1 h2 h3 => .inl (by rw [← h1.unique h3]; omega)
  refine ⟨fun W hW => (First_any _ hf W (hi W hW)).mono fun e w' h => h.good hc (fun _ h => h) (fun F h => h.1), fun W hW => (Follow_any _ hf W (hi W hW)).mono fun e w' h => h.good hc (fun _ h => h) lF,
    fun W hW => (Shortest_any _ hf W (hi W hW)).mono fun e w' h => h.good hc (fun _ h => h) rfl, fun W hW => (Circular_any _ hf W (hi W hW)).mono fun e w' h => h.good hc (fun _ h => h) (fun F h => h.1),
    fun S hS k hk h0 h1 W hW => (Sample_any whole4096 _ hf k (by decide) (by decide) (fun S' hS' => hL _ S S' k hS h1 hS') W (hi W hW) (tab_below hT hW)).mono fun e w' h => h.good hc ⟨rfl, rfl, fun _ => Iff.rfl⟩ hS hk h0 h1,
    fun a c W hW hr => (First_any _ (hfT a c) W (hiT a c W hW hr)).mono fun e w' h => h.good (hcT a c) (fun _ h => (hs a c).first h) (fun F h => h.1), fun a c W hW hr => (Follow_any _ (hfT a c) W (hiT a c W hW hr)).mono fun e w' h => h.good (hcT a c) (fun _ h => (hs a c).follow h) (fun F h => lF F ((hs a c).follow h)),
    fun a c W hW hr => (Shortest_any _ (hfT a c) W (hiT a c W hW hr)).mono fun e w' h => h.good (hcT a c) (fun _ h => (hs a c).short h) rfl, fun a c W hW hr => (Circular_any _ (hfT a c) W (hiT a c W hW hr)).mono fun e w' h => h.good (hcT a c) (fun _ h => (hs a c).circ h) (fun F h => h.1),
    fun S hS k hk h0 h1 a c W hW hr => (Sample_any whole4096 _ (hfT a c) k (by decide) (by decide) (fun S' hS' => hL _ S S' k ((sameT g a c).short hS) h1 hS') W (hiT a c W hW hr) (tab_below hT hW)).mono fun e w' h => h.good (hcT a c) (hs a c) ((sameT g a c).short hS) hk h0 h1⟩

structure OL (g : GramM) (w : World) (Bh k : Nat) (v : Value) (W : World) : Prop where
  low : Below w.heap.size w W
  b0 : Blk W w.heap.size 27 #[.slice g.sa g.sorts.length g.sc, .slice g.pa g.prods.length g.pc, .int .i64 g.start, .slice none 0 0, .slice g.wa g.follow.length g.wc]
  b1 : Blk W Bh 27 #[.slice g.sa g.sorts.length g.sc, v, .int .i64 g.start, .slice none 0 0, .slice g.wa g.follow.length g.wc]
  own : W.ownsRow (Bh + 1) 65 7 v (dbl g.prods k).length (cellsL prodC (dbl g.prods k))
  lt : w.heap.size < Bh
  hi : Bh + 1 ≤ W.heap.size
theorem OL.on {g : GramM} {w : World} {Bh k : Nat} {v : Value} {W V : World} (h : OL g w Bh k v W) (hB : Below W.heap.size W V) : OL g w Bh k v V :=
  ⟨h.low.trans (hB.mono h.low.size), h.b0.below hB h.b0.lt, h.b1.below hB h.b1.lt, own_below h.own hB (Nat.le_refl _), h.lt, Nat.le_trans h.hi hB.size⟩
theorem OL.ne {g : GramM} {w : World} {Bh k : Nat} {v : Value} {W : World} (h : OL g w Bh k v W) {b : Nat} (hb : b < Bh + 1) : some b ≠ v.ownBlock := by
  rcases h.own.2 with ⟨rfl, _⟩ | ⟨g, cap, cur, rfl, h1, _⟩
  · simp [Value.ownBlock]
  · simp only [Value.ownBlock, ne_eq, Option.some.injEq]
    rintro rfl
    omega
theorem OL.start {g : GramM} {w W : World} (hB : Below w.heap.size w W) (h0 : Blk W w.heap.size 27 #[.slice g.sa g.sorts.length g.sc, .slice g.pa g.prods.length g.pc, .int .i64 g.start, .slice none 0 0, .slice g.wa g.follow.length g.wc]) :
    OL g w W.heap.size g.prods.length (.slice none 0 0) (W.alloc (.cells #[.slice g.sa g.sorts.length g.sc, .slice none 0 0, .int .i64 g.start, .slice none 0 0, .slice g.wa g.follow.length g.wc] 27)) :=
  ⟨hB.alloc hB.size _, h0.alloc _, Blk.new W 27 _, by rw [dbl_end]; exact ⟨rfl, .inl ⟨rfl, rfl⟩⟩, h0.lt, by rw [World.size_alloc]; exact Nat.le_refl _⟩
theorem OL.push {g : GramM} {w : World} {Bh k : Nat} {v : Value} {W W6 : World} {G cap : Nat} {x : ProdM} (h : OL g w Bh (k + 1) v W) (hx : g.prods[k]? = some x)
    (own6 : W6.ownsRow (Bh + 1) 65 7 (.slice (some ⟨G, 0, none⟩) ((dbl g.prods (k + 1)).length + 2) cap) ((dbl g.prods (k + 1)).length + 2) (cellsL prodC (dbl g.prods (k + 1)) ++ (prodC x ++ prodC x).toList)) (hg : W.grownBy W6 v.ownBlock) :
    OL g w Bh k (.slice (some ⟨G, 0, none⟩) (dbl g.prods k).length cap) (W6.setCell ⟨Bh, 1, none⟩ (.slice (some ⟨G, 0, none⟩) ((dbl g.prods (k + 1)).length + 2) cap)) := by
  have e : dbl g.prods k = dbl g.prods (k + 1) ++ [x, x] := dbl_step hx
  have el : (dbl g.prods k).length = (dbl g.prods (k + 1)).length + 2 := by rw [e, List.length_append]; rfl
  refine ⟨?_, ?_, ?_, ?_, h.lt, ?_⟩
  · refine (h.low.grown hg h.low.size fun j e => ?_).setCell (p := ⟨Bh, 1, none⟩) (Nat.le_of_lt h.lt) _
    rcases h.own.2 with ⟨rfl, _⟩ | ⟨g, cap', cur, rfl, h1, _⟩
    · simp [Value.ownBlock] at e
    · have := h.lt
      simp [Value.ownBlock] at e; omega
  · exact (h.b0.kept hg (h.ne (by have := h.lt; omega))).other (by show w.heap.size ≠ Bh; have := h.lt; omega) _
  · rw [el]
    exact (h.b1.kept hg (h.ne (by omega))).set 1 _
  · have e2 : cellsL prodC (dbl g.prods k) = cellsL prodC (dbl g.prods (k + 1)) ++ (prodC x ++ prodC x).toList := by
      rw [e]
      simp [cellsL]
    rw [e2, el]
    exact own_put own6 (by omega) _
  · rw [World.size_setCell]
    exact Nat.le_trans h.hi hg.size
theorem OL.reads {g : GramM} {w : World} {Bh k : Nat} {v : Value} {W W' : World} (h : OL g w Bh k v W) (hg : W.grownBy W' v.ownBlock) : W'.cell? ⟨Bh, 1, none⟩ = some v ∧ W'.cell? ⟨w.heap.size, 1, none⟩ = some (.slice g.pa g.prods.length g.pc) ∧ W'.frozen? ⟨Bh, 1, none⟩ = false ∧ Bh < W'.heap.size ∧ Below w.heap.size w W' := by
  have h1 := h.b1.kept hg (h.ne (by omega))
  have h0 := h.b0.kept hg (h.ne (by have := h.lt; omega))
  refine ⟨h1.cell 1, h0.cell 1, h1.frozen 1, h1.lt, h.low.grown hg h.low.size fun j e => ?_⟩
  rcases h.own.2 with ⟨rfl, _⟩ | ⟨g, cap', cur, rfl, h2, _⟩
  · simp [Value.ownBlock] at e
  · have := h.lt
    simp [Value.ownBlock] at e; omega
theorem OL.app {g : GramM} {w : World} {Bh k : Nat} {v : Value} {W : World} (h : OL g w Bh k v W) (x : ProdM) (hm : (dbl g.prods k).length ≤ 1000) (ty : TypeId) :
    ∃ G cap W6, (Builtin.append_ #[23, 23] ty #[v, .slice (some ⟨W.heap.size, 0, none⟩) 2 2]).run Tryz.prog (W.alloc (.cells (prodC x ++ prodC x) 65)) = .ok (.slice (some ⟨G, 0, none⟩) ((dbl g.prods k).length + 2) cap) W6 ∧
      W6.ownsRow (Bh + 1) 65 7 (.slice (some ⟨G, 0, none⟩) ((dbl g.prods k).length + 2) cap) ((dbl g.prods k).length + 2) (cellsL prodC (dbl g.prods k) ++ (prodC x ++ prodC x).toList) ∧ W.grownBy W6 v.ownBlock := by
  obtain ⟨i65, ti65, tz65, ts65, tb65⟩ := info_parts info65
  obtain ⟨G, cap, W6, h1, h2, h3, _, _⟩ := run_append_lies (P := Tryz.prog) (w := W.alloc (.cells (prodC x ++ prodC x) 65)) 23 ty (Bh + 1) 65 i65 _ 7 72 Tryz.underlying23 ti65 tz65 ts65 tb65 rfl (by decide) v (dbl g.prods k).length (cellsL prodC (dbl g.prods k))
    (own_below h.own ((Below.refl W.heap.size W).alloc (Nat.le_refl _) _) (Nat.le_refl _)) ⟨W.heap.size, 0, none⟩ 2 2 (prodC x ++ prodC x).toList rfl (cells_new W _ 65) (fun u hu => by
      rw [Array.toList_append] at hu
      rcases List.mem_append.1 hu with hu | hu <;> exact prod_one x u hu) (by decide) (by unfold maxLen; omega) (by omega) (by rw [World.size_alloc]; have := h.hi; omega) _ rfl
  exact ⟨G, cap, W6, h1, h2, (World.grownBy_alloc W _ _).trans h3⟩
theorem OL.row {g : GramM} {w : World} {Bh : Nat} {v : Value} {W : World} (h : OL g w Bh 0 v W) (hp : RowProd w g.pa g.prods) : ∃ a c, v = .slice a (dbl g.prods 0).length c ∧ RowProd W a (dbl g.prods 0) :=
  own_row (cs := prodC) (k := 7) (fun _ => rfl) h.own fun x hx => ProdIn.below (RowOf.mem hp ((dbl_mem g.prods x).1 hx)) h.low
section
variable {w : World} {o : Oper} {ρ : Operand → Value}
theorem bs23 {x y : Operand} {u : ProdM} (ho : o.op = .buildSlice 23 2 #[(0, x), (1, y)]) (hx : ρ x = .agg (prodC u)) (hy : ρ y = .agg (prodC u)) : (execOp ρ o).run Tryz.prog w = .ok (.value (.slice (some ⟨w.heap.size, 0, none⟩) 2 2)) (w.alloc (.cells (prodC u ++ prodC u) 65)) := by
  unfold prodC at *
  unfold execOp; rw [ho]; simp only [List.map_toArray, List.map_cons, List.map_nil, hx, hy]
  go_simp
theorem st23 {x y : Operand} {b i n c : Nat} {u : Value} {q : Option Addr} (ho : o.op = .store 23 x y) (hx : ρ x = .pointer (some ⟨b, i, none⟩)) (hy : ρ y = .slice q n c) (hc : w.cell? ⟨b, i, none⟩ = some u) (hf : w.frozen? ⟨b, i, none⟩ = false) (hl : b < w.heap.size) : (execOp ρ o).run Tryz.prog w = .ok .skip (w.setCell ⟨b, i, none⟩ (.slice q n c)) := by
  unfold execOp; rw [ho]; simp only [hx, hy]
  go_simp
end

theorem set_at4 {W : World} {B k : Nat} {cs : Array Value} {s : BS} (h : Blk W B 47 cs) (hS : SetAt cs (k * 4) s) : W.cell? ⟨B, k * 4, none⟩ = some (.int .u64 (wdI s 0)) ∧ W.cell? ⟨B, k * 4 + 1, none⟩ = some (.int .u64 (wdI s 1)) ∧ W.cell? ⟨B, k * 4 + 2, none⟩ = some (.int .u64 (wdI s 2)) ∧ W.cell? ⟨B, k * 4 + 3, none⟩ = some (.int .u64 (wdI s 3)) := by
  have c0 := (h.cell (k * 4 + 0)).trans (set_cell hS (j := 0) (by decide))
  rw [Nat.add_zero] at c0
  exact ⟨c0, (h.cell (k * 4 + 1)).trans (set_cell hS (j := 1) (by decide)), (h.cell (k * 4 + 2)).trans (set_cell hS (j := 2) (by decide)), (h.cell (k * 4 + 3)).trans (set_cell hS (j := 3) (by decide))⟩
theorem int_at1 {W : World} {B k : Nat} {S : List Int} {m : Int} (h : RowInt W (some ⟨B, 0, none⟩) S) (hm : S[k]? = some m) : W.cell? ⟨B, k, none⟩ = some (.int .i64 m) ∧ B < W.heap.size := by
  obtain ⟨b, off, e, hb, hc, _⟩ := h k m hm
  cases e
  have := hc 0 _ rfl
  rw [Nat.zero_add, Nat.mul_one, Nat.add_zero] at this
  exact ⟨this, hb⟩
theorem gi_nat' {S : List Int} {k : Nat} {m : Int} (h : S[k]? = some m) : gi S (k : Int) = m := gi_some (by rw [Int.toNat_natCast]; exact h)
theorem circ_one {g : GramM} {R R' : List Bool} (h : CircP g R) (h' : CircP g R') : R = R' := SameG.circ_eq ⟨rfl, rfl, fun _ => Iff.rfl⟩ h h'
end Go.Proofs.YtodnlcbnbkkanaaGreatDoor
end
