import Derived.Laws.EntriesVeiled
import Derived.Deep.RegionLaw
import Derived.Test.YtiihdbchchnncaaQ4
namespace Go.Proofs.Ytiihdbchchnncaa
open Go Go.RowKit

/-- Which sorts, which productions stay. -/
def sP (S : List Bool) (i : Nat) : Bool := lv S i
def pP (g : GramM) (S : List Bool) (i : Nat) : Bool := match g.prods[i]? with | some x => stayP S x | none => false

/-- What is left, but for where it lies. -/
structure KeptM (g : GramM) (S : List Bool) (h : GramM) : Prop where
  sorts : h.sorts = keepL (sP S) g.sorts
  start : h.start = plI (sP S) g.start.toNat
  prods : h.prods.map bareP = (keepL (pP g S) g.prods).map fun x => bareP (movP (sP S) none 0 x)
  forbid : h.forbid = g.forbid.filterMap (movF (pP g S))
  follow : h.follow = g.follow.filterMap (movW (sP S))
/-- What is nil has no capacity. -/
structure NilOK (g : GramM) : Prop where
  s : g.sa = none → g.sc = 0
  p : g.pa = none → g.pc = 0
  f : g.fa = none → g.fc = 0
  w : g.wa = none → g.wc = 0
  r : ∀ x, x ∈ g.prods → x.ra = none → x.rc = 0

/-- A grammar whose lists lie from a block on: what is below may be written. -/
def GFar (N : Nat) (w : World) (h : GramM) : Prop := ∀ W : World, (∀ k, N ≤ k → k < w.heap.size → W.heap[k]? = w.heap[k]?) → GIn W h
theorem own_far {w W : World} {b e s n : Nat} {v : Value} {xs : List Value} (h : w.ownsRow b e s v n xs) {N : Nat} (hN : N ≤ b) (hW : ∀ k, N ≤ k → k < w.heap.size → W.heap[k]? = w.heap[k]?) : W.ownsRow b e s v n xs := by
  refine ⟨h.1, ?_⟩
  rcases h.2 with h1 | ⟨g, cap, cur, h1, h2, h3, h4⟩
  · exact .inl h1
  · exact .inr ⟨g, cap, cur, h1, h2, (hW g (Nat.le_trans hN h2) (Array.getElem?_eq_some_iff.1 h3).1).trans h3, h4⟩
theorem keep_mid {α : Type} (p : Nat → Bool) (l : List α) (k : Nat) (x : α) (h : l[k]? = some x) : keepL p (l.take (k + 1)) = keepL p (l.take k) ++ if p k then [x] else [] := by
  have hk : k < l.length := (List.getElem?_eq_some_iff.1 h).1
  rw [take_snoc l k x h, keepL_snoc, List.length_take, Nat.min_eq_left (Nat.le_of_lt hk)]
theorem plI_neq (p : Nat → Bool) (k : Nat) (h : p k = true) : ∃ c : Nat, plI p k = c := ⟨cnt p k, by unfold plI; rw [h]; rfl⟩
theorem plI_gone (p : Nat → Bool) (k : Nat) (h : p k = false) : plI p k = -1 := by unfold plI; rw [h]; rfl

theorem high_ne {w : World} {base e size : Nat} {v : Value} {n : Nat} {xs : List Value} (h : w.ownsRow base e size v n xs) {B : Nat} (hB : w.heap.size ≤ B) : some B ≠ v.ownBlock := by
  rcases h.2 with ⟨rfl, _⟩ | ⟨g, cap, cur, rfl, _, hg, _⟩
  · intro e; cases e
  · intro e
    have h1 : B = g := by simpa [Value.ownBlock] using e
    have h2 := (Array.getElem?_eq_some_iff.1 hg).1
    omega
theorem cells7 {W : World} {B : Nat} {u0 u1 u2 u3 u4 u5 u6 : Value} (h : Blk W B 46 #[u0, u1, u2, u3, u4, u5, u6]) : W.cell? ⟨B, 0, none⟩ = some u0 ∧ W.cell? ⟨B, 1, none⟩ = some u1 ∧ W.cell? ⟨B, 2, none⟩ = some u2 ∧ W.cell? ⟨B, 3, none⟩ = some u3 ∧ W.cell? ⟨B, 4, none⟩ = some u4 ∧ W.cell? ⟨B, 5, none⟩ = some u5 ∧ W.cell? ⟨B, 6, none⟩ = some u6 :=
  ⟨h.cell 0, h.cell 1, h.cell 2, h.cell 3, h.cell 4, h.cell 5, h.cell 6⟩
theorem fm_snoc {α β : Type} (f : α → Option β) (l : List α) (x : α) : (l ++ [x]).filterMap f = l.filterMap f ++ (f x).toList := by
  rw [List.filterMap_append]
  congr 1
theorem own_rowS {α : Type} {cs : α → Array Value} {k : Nat} {G : World → α → Prop} (hk : ∀ x, (cs x).size = k) {w : World} {n₀ e : Nat} {a : Option Addr} {c : Nat} {l : List α} (h : w.ownsRow n₀ e k (.slice a l.length c) l.length (cellsL cs l))
    (hG : ∀ x, x ∈ l → G w x) : RowOf k cs G w a l ∧ (a = none → c = 0) := by
  obtain ⟨a', c', e1, h1⟩ := own_row hk h hG
  obtain ⟨a2, c2, e2, _, h2⟩ := own_slice h
  cases e1
  cases e2
  exact ⟨h1, h2⟩
theorem KS.fin {g : GramM} {pS pP : Nat → Bool} {w : World} {P1 P2 Bo N0 : Nat} {st : Int} {sa pa fa wa : Option Addr} {sc pc fc wc : Nat} {ss : List ByteArray} {ps : List ProdM} {fs : List ForM} {ws : List FolM} {wr W : World}
    (h : KS g pS pP w P1 P2 Bo N0 st (.slice sa ss.length sc) (.slice pa ps.length pc) (.slice fa fs.length fc) (.slice wa ws.length wc) ss ps fs ws wr)
    (hW : W = ((((wr.setCell ⟨w.heap.size + 1 + 1, 0, none⟩ (.slice sa ss.length sc)).setCell ⟨w.heap.size + 1 + 1, 1, none⟩ (.slice pa ps.length pc)).setCell ⟨w.heap.size + 1 + 1, 2, none⟩ (.int .i64 st)).setCell ⟨w.heap.size + 1 + 1, 3, none⟩ (.slice fa fs.length fc)).setCell ⟨w.heap.size + 1 + 1, 4, none⟩ (.slice wa ws.length wc)) :
    Blk W (w.heap.size + 1 + 1) 27 #[.slice sa ss.length sc, .slice pa ps.length pc, .int .i64 st, .slice fa fs.length fc, .slice wa ws.length wc] ∧ Below w.heap.size w W ∧ GFar w.heap.size W ⟨sa, sc, ss, pa, pc, ps, st, fa, fc, fs, wa, wc, ws⟩ ∧ NilOK ⟨sa, sc, ss, pa, pc, ps, st, fa, fc, fs, wa, wc, ws⟩ := by
  have hN : w.heap.size + 1 + 1 < N0 := by have := h.n0.1; omega
  have put : ∀ {e size n : Nat} {v : Value} {xs : List Value}, wr.ownsRow N0 e size v n xs → W.ownsRow N0 e size v n xs := fun h => by
    rw [hW]
    exact own_put (own_put (own_put (own_put (own_put h hN _) hN _) hN _) hN _) hN _
  have hb := ((((h.br.set 0 (.slice sa ss.length sc)).set 1 (.slice pa ps.length pc)).set 2 (.int .i64 st)).set 3 (.slice fa fs.length fc)).set 4 (.slice wa ws.length wc)
  have hlow : w.heap.size ≤ N0 := by omega
  have hnil : ∀ {α : Type} {cs : α → Array Value} {k e : Nat} {a : Option Addr} {c : Nat} {l : List α} (_ : ∀ x, (cs x).size = k), W.ownsRow N0 e k (.slice a l.length c) l.length (cellsL cs l) → a = none → c = 0 := fun hk h => (own_rowS (G := NoG) hk h (fun _ _ => trivial)).2
  refine ⟨?_, ?_, fun V hV => ?_, ⟨hnil (cs := strC) (fun _ => rfl) (put h.r0), hnil (cs := prodC) (fun _ => rfl) (put h.r1), hnil (cs := forC) (fun _ => rfl) (put h.r3), hnil (cs := folC) (fun _ => rfl) (put h.r4), fun x hx => hnil (cs := symC) (fun _ => rfl) (put (h.rs x hx))⟩⟩
  rotate_left 2
  · have hrs : ∀ x, x ∈ ps → RowSym V x.ra x.right := fun x hx => (own_rowS (cs := symC) (fun _ => rfl) (own_far (put (h.rs x hx)) hlow hV) (fun _ _ => trivial)).1
    exact ⟨(own_rowS (cs := strC) (G := NoG) (fun _ => rfl) (own_far (put h.r0) hlow hV) (fun _ _ => trivial)).1, (own_rowS (cs := prodC) (G := ProdIn) (fun _ => rfl) (own_far (put h.r1) hlow hV) hrs).1,
      (own_rowS (cs := forC) (G := NoG) (fun _ => rfl) (own_far (put h.r3) hlow hV) (fun _ _ => trivial)).1, (own_rowS (cs := folC) (G := NoG) (fun _ => rfl) (own_far (put h.r4) hlow hV) (fun _ _ => trivial)).1⟩
  · rw [hW]; simpa using hb
  · rw [hW]
    have hle : w.heap.size ≤ w.heap.size + 1 + 1 := by omega
    exact ((((h.b.setCell (p := ⟨w.heap.size + 1 + 1, 0, none⟩) hle _).setCell (p := ⟨w.heap.size + 1 + 1, 1, none⟩) hle _).setCell (p := ⟨w.heap.size + 1 + 1, 2, none⟩) hle _).setCell (p := ⟨w.heap.size + 1 + 1, 3, none⟩) hle _).setCell (p := ⟨w.heap.size + 1 + 1, 4, none⟩) hle _
theorem KS.boxo {g : GramM} {pS pP : Nat → Bool} {w : World} {P1 P2 Bo N0 : Nat} {st : Int} {v0 v1 v3 v4 : Value} {ss : List ByteArray} {ps : List ProdM} {fs : List ForM} {ws : List FolM} {wr W : World}
    (h : KS g pS pP w P1 P2 Bo N0 st v0 v1 v3 v4 ss ps fs ws wr) {v' : Value} {e size n : Nat} {xs : List Value} (hv : wr.ownsRow N0 e size v' n xs) (hg : wr.grownBy W v'.ownBlock) : Blk W Bo 27 #[v0, v1, .int .i64 st, v3, v4] :=
  h.bo.kept hg (low_ne hv h.n0.2.2.2.1)
theorem plI_neg (p : Nat → Bool) (k : Nat) : (plI p k == -1) = !(p k) := by
  unfold plI
  split
  · next h => rw [h]; simp
  · next h => simp [h]

set_option maxRecDepth 100000 in
set_option maxHeartbeats 4000000 in
theorem kept_any (g : GramM) (hm : MayB g) (hf : Fit g) (hnil : NilOK g) (S : List Bool) (hS : S.length = g.sorts.length) (w : World) (hg : GIn w g) (aS : Option Addr) (cS : Nat) (hrow : RowBool w aS S) :
    Calls Try.prog 53 #[gramV g, .slice aS S.length cS] w fun e w' => ∃ h, e = .returned (gramV h) ∧ KeptM g S h ∧ GFar w.heap.size w' h ∧ NilOK h ∧ Below w.heap.size w w' := by
  obtain ⟨i9, ti9, tz9, ts9, tb9⟩ := info_parts Try.info9
  obtain ⟨i46, ti46, tz46, ts46, tb46⟩ := info_parts Try.info46
  obtain ⟨i78, ti78, tz78, ts78, tb78⟩ := info_parts Try.info78
  obtain ⟨i80, ti80, tz80, ts80, tb80⟩ := info_parts Try.info80
  have hmf : ∀ (fn : Fn) (first cap : Array Value) (w : World), (Instr.makeFunc fn first cap).run Try.prog w = .ok (.func fn first cap) w := fun _ _ _ _ => rfl
  obtain ⟨W1, hW1⟩ : ∃ W1, W1 = (((w.alloc (.cells (gramC g) 27)).alloc (.cells #[.slice aS S.length cS] 82)).alloc (.cells #[.slice none 0 0, .slice none 0 0, .int .i64 0, .slice none 0 0, .slice none 0 0] 27)).alloc (.cells #[.func (.func 70) #[] #[.pointer (some ⟨w.heap.size + 1, 0, none⟩)]] 70) := ⟨_, rfl⟩
  have hs1 : W1.heap.size = w.heap.size + 4 := by rw [hW1]; simp
  have b1 := Blk.new w 27 (gramC g)
  have b2 := Blk.new (w.alloc (.cells (gramC g) 27)) 82 #[.slice aS S.length cS]
  have b3 := Blk.new ((w.alloc (.cells (gramC g) 27)).alloc (.cells #[.slice aS S.length cS] 82)) 27 #[.slice none 0 0, .slice none 0 0, .int .i64 0, .slice none 0 0, .slice none 0 0]
  have b4 := Blk.new (((w.alloc (.cells (gramC g) 27)).alloc (.cells #[.slice aS S.length cS] 82)).alloc (.cells #[.slice none 0 0, .slice none 0 0, .int .i64 0, .slice none 0 0, .slice none 0 0] 27)) 70 #[.func (.func 70) #[] #[.pointer (some ⟨w.heap.size + 1, 0, none⟩)]]
  simp only [World.size_alloc] at b2 b3 b4
  have hB1 : Below w.heap.size w W1 := by rw [hW1]; exact ((((Below.refl _ w).alloc (Nat.le_refl _) _).alloc (by simp) _).alloc (by simp; omega) _).alloc (by simp; omega) _
  have k1 : Blk W1 w.heap.size 27 (gramC g) := by rw [hW1]; exact ((b1.alloc _).alloc _).alloc _
  have k2 : Blk W1 (w.heap.size + 1) 82 #[.slice aS S.length cS] := by rw [hW1]; exact (b2.alloc _).alloc _
  have k3 : Blk W1 (w.heap.size + 2) 27 #[.slice none 0 0, .slice none 0 0, .int .i64 0, .slice none 0 0, .slice none 0 0] := by rw [hW1]; exact b3.alloc _
  have k4 : Blk W1 (w.heap.size + 3) 70 #[.func (.func 70) #[] #[.pointer (some ⟨w.heap.size + 1, 0, none⟩)]] := by rw [hW1]; exact b4
  have HC1 := Lib.hid (places_any g.sorts.length hm.sorts2 (sP S) 70 #[.pointer (some ⟨w.heap.size + 1, 0, none⟩)] (fun _ _ => by kernel_rfl) W1 (fun i hi W hW =>
    f70_any S (w.heap.size + 1) aS cS i (by rw [hS]; exact hi) W (k2.below hW k2.lt) (hrow.belowN (hB1.trans (hW.mono hB1.size)))))
  have HC2 := Lib.hid (fun W (hW : Below W1.heap.size W1 W) => places_any g.prods.length hm.prods (pP g S) 72 #[.pointer (some ⟨w.heap.size, 0, none⟩), .pointer (some ⟨w.heap.size + 3, 0, none⟩)] (fun _ _ => by kernel_rfl) W (fun i hi V hV => by
    obtain ⟨x, hx⟩ : ∃ x, g.prods[i]? = some x := ⟨_, List.getElem?_eq_getElem hi⟩
    have hV1 : Below W1.heap.size W1 V := hW.trans (hV.mono hW.size)
    have e : pP g S i = stayP S x := by unfold pP; rw [hx]
    rw [e]
    exact f72_any g hm S hS w.heap.size (w.heap.size + 3) (w.heap.size + 1) aS cS i x hx V (hg.below (hB1.trans (hV1.mono hB1.size))) (k1.below hV1 k1.lt) (k4.below hV1 k4.lt) (k2.below hV1 k2.lt) (hrow.belowN (hB1.trans (hV1.mono hB1.size)))))
  have HM := Lib.hid hm
  have HG := Lib.hid hg
  have HNil := Lib.hid hnil
  have HK1 := Lib.hid k1
  have HK3 := Lib.hid k3
  have HB1 := Lib.hid hB1
  have Hs1 := Lib.hid hs1
  have HW1 := Lib.hid hW1
  have hmp := hm.prods
  have hms := hm.sorts2
  have hff := hf.forbid
  have hfw := hf.follow
  obtain ⟨stn, hst, hstn⟩ := hm.start
  clear b1 b2 b3 b4 k1 k2 k3 k4 hB1 hs1 hW1 hm hg hnil hrow hf hS
  obtain ⟨pa, hpa⟩ : ∃ p, p = g.pa := ⟨_, rfl⟩
  have HPa := Lib.hid hpa
  obtain ⟨sa, hsa⟩ : ∃ p, p = g.sa := ⟨_, rfl⟩
  have HSa := Lib.hid hsa
  obtain ⟨fa, hfa⟩ : ∃ p, p = g.fa := ⟨_, rfl⟩
  have HFa := Lib.hid hfa
  obtain ⟨wa, hwa⟩ : ∃ p, p = g.wa := ⟨_, rfl⟩
  have HWa := Lib.hid hwa
  have HGr : Hid (gramC g = #[.slice sa g.sorts.length g.sc, .slice pa g.prods.length g.pc, .int .i64 (stn : Int), .slice fa g.forbid.length g.fc, .slice wa g.follow.length g.wc]) := Lib.hid (by rw [hpa, hsa, hfa, hwa, ← hst]; rfl)
  have HSt := Lib.hid hst
  unfold gramV
  rw [HGr.out] at HW1 HK1 ⊢
  clear hpa hsa hfa hwa hst
  go_enter Try.func53, Try.ntmps53
  go_wp2_with fail
  rw [← HW1.out]
  with_reducible refine HC1.out.mono ?_
  rintro e w3 ⟨rfl, hP1, hB3⟩
  have HK3' := Lib.hid (HK1.out.below hB3 HK1.out.lt)
  have c0 := HK3'.out.cell 0
  have c1 := HK3'.out.cell 1
  simp only [List.getElem?_toArray, List.getElem?_cons_zero, List.getElem?_cons_succ] at c0 c1
  have l3 := HK3'.out.lt
  have HP1 := Lib.hid hP1
  have HB3 := Lib.hid hB3
  have HC3 := Lib.hid (HC2.out w3 hB3)
  obtain ⟨P1, hp1⟩ : ∃ P, P = W1.heap.size := ⟨_, rfl⟩
  rw [← hp1] at HP1 ⊢
  have Hp1 := Lib.hid hp1
  clear hP1 hB3 hp1 HC1 HC2
  go_wp2_with fail
  with_reducible refine HC3.out.mono ?_
  rintro e w4 ⟨rfl, hP2, hB4⟩
  have HK4 := Lib.hid (HK3'.out.below hB4 HK3'.out.lt)
  have d2 := HK4.out.cell 2
  simp only [List.getElem?_toArray, List.getElem?_cons_zero, List.getElem?_cons_succ] at d2
  have l4 := HK4.out.lt
  have HP1' := Lib.hid (HP1.out.below hB4 HP1.out.lt)
  have p1 := HP1'.out.cell hstn
  have lp1 := HP1'.out.lt
  have HP2 := Lib.hid hP2
  have HB4 := Lib.hid (HB1.out.trans ((HB3.out.trans (hB4.mono HB3.out.size)).mono HB1.out.size))
  have HBr := Lib.hid ((HK3.out.below HB3.out HK3.out.lt).below hB4 (Nat.lt_of_lt_of_le HK3.out.lt HB3.out.size))
  have hw3 : W1.heap.size < w3.heap.size := by have := HP1.out.lt; rw [Hp1.out] at this; exact this
  obtain ⟨P2, hp2⟩ : ∃ P, P = w3.heap.size := ⟨_, rfl⟩
  rw [← hp2] at HP2 ⊢
  have hlt12 : w.heap.size + 4 = P1 ∧ P1 < P2 ∧ P2 < w4.heap.size := ⟨by rw [Hp1.out, Hs1.out], by rw [Hp1.out, hp2]; exact hw3, HP2.out.lt⟩
  have HLt := Lib.hid hlt12
  have tn : (stn : Int) < 1000 := by omega
  have HPlI : Hid (plI (sP S) stn = plI (sP S) g.start.toNat) := Lib.hid (by rw [HSt.out, Int.toNat_natCast])
  obtain ⟨st, hst⟩ : ∃ v, v = plI (sP S) stn := ⟨_, rfl⟩
  rw [← hst] at p1 HPlI
  clear hP2 hB4 hp2 HC3 HP1 HB3 HK3' hw3 hlt12 hst c0 c1 l3 HB1 HK1 HK3 HW1 Hs1 Hp1
  go_wp2
  go_region
  obtain ⟨W5, hW5⟩ : ∃ W5, W5 = (w4.alloc (.cells #[.slice none 0 0, .slice none 0 0, .int .i64 st, .slice none 0 0, .slice none 0 0] 27)).drew := ⟨_, rfl⟩
  have hKS : KS g (sP S) (pP g S) w P1 P2 w4.heap.size (w4.heap.size + 1) st (.slice none 0 0) (.slice none 0 0) (.slice none 0 0) (.slice none 0 0) [] [] [] [] W5 := by
    obtain ⟨q1, q2, q3⟩ := HLt.out
    have hB5 : Below w4.heap.size w4 W5 := by rw [hW5]; exact ((Below.refl _ _).alloc (Nat.le_refl _) _).drew
    refine ⟨⟨by omega, by omega, by omega, by omega, by omega, by omega, by omega⟩, ?_, ?_, HBr.out.below hB5 HBr.out.lt, HP1'.out.below hB5 HP1'.out.lt, HP2.out.below hB5 HP2.out.lt, HB4.out.trans (hB5.mono HB4.out.size), World.ownsRow_nil _ _ _ _, World.ownsRow_nil _ _ _ _, World.ownsRow_nil _ _ _ _, World.ownsRow_nil _ _ _ _, (fun x hx => by cases hx), ?_⟩
    · rw [HGr.out]; exact HK4.out.below hB5 HK4.out.lt
    · rw [hW5]; exact Blk.new w4 27 _
    · rw [hW5]; simp [World.drew]
  rw [← hW5]
  have hLs : g.sorts.length ≤ 1000 := HM.out.sorts2
  have HKS := Lib.hid hKS
  have e0 := hKS.bg.gram.1
  rw [← HSa.out] at e0
  have l5 := hKS.bg.lt
  have HLs := Lib.hid hLs
  clear hW5 hKS p1 lp1 d2 l4 HP1' HP2 HB4 HBr HK4 HLt tn hLs
  go_wp2
  go_loopw [38] (fun i wr => ∃ k : Nat, i = .int .i64 k ∧ k ≤ g.sorts.length ∧ ∃ v0, Hid (KS g (sP S) (pP g S) w P1 P2 w4.heap.size (w4.heap.size + 1) st v0 (.slice none 0 0) (.slice none 0 0) (.slice none 0 0) (keepL (sP S) (g.sorts.take k)) [] [] [] wr))
    (fun i _ => g.sorts.length - (intOf i).toNat)
  case atStart => exact ⟨0, rfl, Nat.zero_le _, _, HKS⟩
  case round =>
    clear HKS e0 l5
    obtain ⟨k, rfl, hk, v0, hks⟩ := hrel
    by_cases hlt : k < g.sorts.length
    · obtain ⟨s, hsk⟩ : ∃ s, g.sorts[k]? = some s := ⟨_, List.getElem?_eq_getElem hlt⟩
      obtain ⟨b, off, hsa, hbw, hc, _⟩ := HG.out.sorts k s hsk
      rw [← HSa.out] at hsa
      subst hsa
      have hks' := hks.out
      have c0 := Str_at (hc.below hks'.b hbw)
      rw [Nat.mul_one] at c0
      have t1 : (k : Int) < 1000 := by omega
      have n1 : (k : Int) < (g.sorts.length : Int) := by omega
      have p1 := hks'.p1.cell hlt
      have e1 := plI_neg (sP S) k
      have HMid := Lib.hid (keep_mid (sP S) g.sorts k s hsk)
      generalize plI (sP S) k = pv at *
      cases hq : sP S k with
      | false =>
        rw [hq] at e1 HMid
        rw [Bool.not_false] at e1
        go_wp2
        go_roundw
        case rel => exact ⟨k + 1, by go_num, by omega, v0, by rw [HMid.out]; simpa using hks⟩
        case measure => simp [intOf]; omega
      | true =>
        rw [hq] at e1 HMid
        rw [Bool.not_true] at e1
        have g0 := hks'.bo.cell 0
        simp only [List.getElem?_toArray, List.getElem?_cons_zero, List.getElem?_cons_succ] at g0
        have lN := hks'.lt
        have lL := keepL_len (sP S) (g.sorts.take k)
        rw [List.length_take, Nat.min_eq_left hk] at lL
        have lo := hks'.bo.lt
        have HCN := Lib.hid (cells_new wr #[.string s] 9)
        clear hc
        go_wp2_with (at_builtin; refine wpList_append_own _ rfl (.tmp 50) (.tmp 52) 22 rfl (w4.heap.size + 1) 9 i9 (.string ⟨#[]⟩) 1 16 Try.underlying22 ti9 tz9 ts9 tb9 rfl (by decide) _ _ _ rfl (hks.out.r0.alloc _) ⟨wr.heap.size, 0, none⟩ 1 1 [.string s] rfl rfl HCN.out (by simp [Value.oneCell']) (by unfold maxLen; omega) (by omega) (by simp; omega) ?_; intro v5 w5 hown5 hgrow5 _; obtain ⟨ra, rc, rfl, _, _⟩ := own_slice hown5; have hka := hks'.below ((Below.refl wr.heap.size wr).alloc (Nat.le_refl _) (.cells #[.string s] 9)); have hbo5 := hka.boxo hka.r0 hgrow5; have f0 := hbo5.frozen 0; have c5 := hbo5.cell 0; have l5 := hbo5.lt; simp only [List.getElem?_toArray, List.getElem?_cons_zero, List.getElem?_cons_succ] at c5; have HKN := Lib.hid (hka.push0 s _ hgrow5 hown5); clear hka hbo5 hown5 hgrow5)
        go_roundw
        case rel => exact ⟨k + 1, by go_num, by omega, _, by rw [HMid.out]; exact HKN⟩
        case measure => simp [intOf]; omega
    · obtain rfl : k = g.sorts.length := by omega
      have hks' := hks.out
      rw [List.take_length] at hks'
      have HKS := Lib.hid hks'
      have e1 := hks'.bg.gram.2.1
      rw [← HPa.out] at e1
      have l5 := hks'.bg.lt
      clear hks hks' hlt hk
      go_wp2
      go_loopw [59] (fun i wr => ∃ k : Nat, i = .int .i64 k ∧ k ≤ g.prods.length ∧ ∃ v1 ps, Hid (KS g (sP S) (pP g S) w P1 P2 w4.heap.size (w4.heap.size + 1) st v0 v1 (.slice none 0 0) (.slice none 0 0) (keepL (sP S) g.sorts) ps [] [] wr)
          ∧ Hid (ps.map bareP = (keepL (pP g S) (g.prods.take k)).map fun x => bareP (movP (sP S) none 0 x)))
        (fun i _ => g.prods.length - (intOf i).toNat)
      case atStart => exact ⟨0, rfl, Nat.zero_le _, _, [], HKS, Lib.hid rfl⟩
      case round =>
        clear HKS e1 l5
        obtain ⟨k, rfl, hk, v1, ps, hks, hps⟩ := hrel
        by_cases hlt : k < g.prods.length
        · obtain ⟨x, hxk⟩ : ∃ x, g.prods[k]? = some x := ⟨_, List.getElem?_eq_getElem hlt⟩
          have hmem := List.mem_of_getElem? hxk
          obtain ⟨b, off, hpa, hbw, hc, hpi⟩ := HG.out.prods k x hxk
          rw [← HPa.out] at hpa
          subst hpa
          have hks' := hks.out
          have HMv := Lib.hid (fun W (hW : Below wr.heap.size wr W) => moved_any x P1 g.sorts.length HM.out.sorts2 (sP S) W (hpi.below (hks'.b.trans (hW.mono hks'.b.size))) (HM.out.right x hmem) (HNil.out.r x hmem) (hks'.p1.below hW hks'.p1.lt)
            (HM.out.left x hmem) (HM.out.sym x hmem))
          obtain ⟨c0, c1, c2, c3, c4, c5, c6⟩ := Prod_at (hc.below hks'.b hbw)
          have t1 : (k : Int) < 1000 := by omega
          have n1 : (k : Int) < (g.prods.length : Int) := by omega
          have p1 := hks'.p2.cell hlt
          have e1 := plI_neg (pP g S) k
          have HMid := Lib.hid (keep_mid (pP g S) g.prods k x hxk)
          have lo := hks'.bo.lt
          have lP1 := hks'.p1.lt
          have lP2 := hks'.p2.lt
          clear hxk hc hpi
          generalize plI (pP g S) k = pv at *
          obtain ⟨left, xra, xrc, right, cons, role, prefer, avoid, frm⟩ := x
          obtain ⟨left', hleft'⟩ : ∃ l, l = plI (sP S) left.toNat := ⟨_, rfl⟩
          have HL' := Lib.hid hleft'
          unfold prodV movP at HMv
          unfold prodC at *
          dsimp only at *
          rw [← hleft'] at HMv
          simp only [List.length_map] at HMv
          clear hleft'
          have HKA := Lib.hid (hks'.below ((Below.refl wr.heap.size wr).alloc (Nat.le_refl _) (.cells #[.int .i64 left, .slice xra right.length xrc, .string cons, .int .i64 role, .bool prefer, .bool avoid, .int .i64 frm] 46)))
          cases hq : pP g S k with
          | false =>
            rw [hq] at e1 HMid
            rw [Bool.not_false] at e1
            go_wp2
            go_roundw
            case rel => exact ⟨k + 1, by go_num, by omega, _, ps, HKA, Lib.hid (by rw [HMid.out]; simpa using hps.out)⟩
            case measure => simp [intOf]; omega
          | true =>
            rw [hq] at e1 HMid
            rw [Bool.not_true] at e1
            have lN := hks'.lt
            have HPB : Hid ((∀ ra rc, (ps ++ [movP (sP S) ra rc ⟨left, xra, xrc, right, cons, role, prefer, avoid, frm⟩]).map bareP = (keepL (pP g S) (g.prods.take (k + 1))).map (fun x => bareP (movP (sP S) none 0 x)))) := Lib.hid (by
              intro ra rc
              rw [HMid.out, List.map_append, List.map_append, hps.out]; rfl)
            have hb := Blk.new wr 46 #[.int .i64 left, .slice xra right.length xrc, .string cons, .int .i64 role, .bool prefer, .bool avoid, .int .i64 frm]
            obtain ⟨WA, hWA⟩ : ∃ W, W = wr.alloc (.cells #[.int .i64 left, .slice xra right.length xrc, .string cons, .int .i64 role, .bool prefer, .bool avoid, .int .i64 frm] 46) := ⟨_, rfl⟩
            have lA : wr.heap.size < WA.heap.size := by rw [hWA]; simp
            have hBA : Below wr.heap.size wr WA := by rw [hWA]; exact (Below.refl _ _).alloc (Nat.le_refl _) _
            rw [← hWA] at HKA hb
            have HMA := Lib.hid (fun W (hW : Below WA.heap.size WA W) => HMv.out W (hBA.trans (hW.mono hBA.size)))
            have HHi := Lib.hid (high_ne hks'.r1 (Nat.le_refl _))
            have Hb := Lib.hid hb
            have lps : ps.length ≤ k := by
              have h := congrArg List.length hps.out
              rw [List.length_map, List.length_map] at h
              rw [h]
              exact Nat.le_trans (keepL_len _ _) (by rw [List.length_take]; omega)
            have hN := hks'.lt
            clear HMid hps HMv hks' hks
            go_wp2_with fail
            rw [← hWA]
            clear c0 c1 c2 c3 c4 c5 c6
            have g1 := HKA.out.bo.cell 1
            obtain ⟨d0, d1, d2, d3, d4, d5, d6⟩ := cells7 hb
            simp only [List.getElem?_toArray, List.getElem?_cons_zero, List.getElem?_cons_succ] at g1
            have hne : ¬ w4.heap.size = wr.heap.size := by omega
            have hne' : ¬ wr.heap.size = w4.heap.size := by omega
            clear hb hBA hWA
            go_region_law (first
              | ((refine step_append_lies _ (by rfl) (.tmp 71) (.tmp 75) 23 (by rfl) (w4.heap.size + 1) 46 i46 (.agg #[.int .i64 0, .slice none 0 0, .string ⟨#[]⟩, .int .i64 0, .bool false, .bool false, .int .i64 0]) 7 72 Try.underlying23 ti46 tz46 ts46 tb46 (by rfl) (by decide) v1 ps.length (cellsL prodC ps) (by rfl) (HK3.out.r1.alloc _) ⟨w3.heap.size, 0, none⟩ 1 1 [.int .i64 left', .slice ra right.length rc, .string cons, .int .i64 role, .bool prefer, .bool avoid, .int .i64 frm] (by rfl) (by rfl) HCN.out (by simp [Value.oneCell']) (by omega) (by unfold maxLen; omega) (by omega) (by simp; omega) (w3.heap.size + 1) (by simp) ?_; intro g5 cap5 w5 hown5 hgrow5 hat5 hlt5; have hka := HK3.out.below ((Below.refl w3.heap.size w3).alloc (Nat.le_refl _) (.cells #[.int .i64 left', .slice ra right.length rc, .string cons, .int .i64 role, .bool prefer, .bool avoid, .int .i64 frm] 46)); have hbo5 := hka.boxo hka.r1 hgrow5; have f5 := hbo5.frozen 1; have l5 := hbo5.lt; have g5' := hbo5.cell 1; simp only [List.getElem?_toArray, List.getElem?_cons_zero, List.getElem?_cons_succ] at g5'; obtain ⟨r0, r1, r2, r3, r4, r5, r6⟩ := cells7 ((Hb3.out.alloc _).kept hgrow5 HHi.out); have HKN := Lib.hid (hka.push1 (movP (sP S) ra rc ⟨left, xra, xrc, right, cons, role, prefer, avoid, frm⟩) _ (by unfold movP; rw [List.length_map]; exact HO3.out.alloc _) hgrow5 (by unfold movP prodC; dsimp only; rw [← HL'.out, List.length_map]; exact hown5)); clear hka hbo5 hown5 hgrow5))
              | (go_simp; go_at_call 73; (with_reducible refine (HMA.out _ (Below.refl _ WA).drew).mono ?_); rintro e w3 ⟨ra, rc, rfl, hown3, hB3⟩; have hB3' : Below WA.heap.size WA w3 := ⟨hB3.os, hB3.tape, hB3.output, hB3.size, hB3.block⟩; have HK3 := Lib.hid (HKA.out.below hB3'); have g3 := HK3.out.bo.cell 1; have lo3 := HK3.out.bo.lt; have Hb3 := Lib.hid (Hb.out.below hB3' lA); obtain ⟨q0, q1, q2, q3, q4, q5, q6⟩ := cells7 Hb3.out; simp only [List.getElem?_toArray, List.getElem?_cons_zero, List.getElem?_cons_succ] at g3; have l3 := hB3'.size; have HO3 := Lib.hid (own_mono hown3 (Nat.le_trans HKA.out.lt (Nat.le_refl _) : w4.heap.size + 1 ≤ WA.drew.heap.size)); have HCN := Lib.hid (cells_new w3 #[.int .i64 left', .slice ra right.length rc, .string cons, .int .i64 role, .bool prefer, .bool avoid, .int .i64 frm] 46); clear hown3 hB3 hB3'))
            all_goals
              go_wp2
              go_roundw
              case rel => exact ⟨k + 1, by go_num, by omega, _, _, by exact HKN, Lib.hid (HPB.out _ _)⟩
              case measure => simp [intOf]; omega
        · obtain rfl : k = g.prods.length := by omega
          have hks' := hks.out
          have hps' := hps.out
          rw [List.take_length] at hps'
          have HKS := Lib.hid hks'
          have HPS := Lib.hid hps'
          have e1 := hks'.bg.gram.2.2.2.1
          rw [← HFa.out] at e1
          have l5 := hks'.bg.lt
          clear hks hks' hps hps' hlt hk
          go_wp2
          go_loopw [82] (fun i wr => ∃ k : Nat, i = .int .i64 k ∧ k ≤ g.forbid.length ∧ ∃ v3 fs, Hid (KS g (sP S) (pP g S) w P1 P2 w4.heap.size (w4.heap.size + 1) st v0 v1 v3 (.slice none 0 0) (keepL (sP S) g.sorts) ps fs [] wr)
              ∧ Hid (fs = (g.forbid.take k).filterMap (movF (pP g S))))
            (fun i _ => g.forbid.length - (intOf i).toNat)
          case atStart => exact ⟨0, rfl, Nat.zero_le _, _, [], HKS, Lib.hid rfl⟩
          case round =>
            clear HKS e1 l5
            obtain ⟨k, rfl, hk, v3, fs, hks, hfs⟩ := hrel
            by_cases hlt : k < g.forbid.length
            · obtain ⟨f, hfk⟩ : ∃ f, g.forbid[k]? = some f := ⟨_, List.getElem?_eq_getElem hlt⟩
              have hmem := List.mem_of_getElem? hfk
              obtain ⟨b, off, hfa, hbw, hc, _⟩ := HG.out.forbid k f hfk
              rw [← HFa.out] at hfa
              subst hfa
              have hks' := hks.out
              obtain ⟨⟨i, hi, hin⟩, ⟨j, hj, hjn⟩⟩ := HM.out.forb f hmem
              obtain ⟨c0, c1, c2⟩ := For_at (hc.below hks'.b hbw)
              have n1 : (k : Int) < (g.forbid.length : Int) := by omega
              have ti : (i : Int) < 1000 := by omega
              have tj : (j : Int) < 1000 := by omega
              have p1 := hks'.p2.cell hin
              have p2 := hks'.p2.cell hjn
              have HTk := Lib.hid (take_snoc g.forbid k f hfk)
              have lo := hks'.bo.lt
              have lP2 := hks'.p2.lt
              have g3 := hks'.bo.cell 3
              simp only [List.getElem?_toArray, List.getElem?_cons_zero, List.getElem?_cons_succ] at g3
              obtain ⟨fp, fat, fch⟩ := f
              dsimp only at *
              subst hi
              subst hj
              have HMf : Hid (movF (pP g S) ⟨(i : Int), fat, (j : Int)⟩ = if plI (pP g S) i ≠ -1 ∧ plI (pP g S) j ≠ -1 then some ⟨plI (pP g S) i, fat, plI (pP g S) j⟩ else none) := Lib.hid (by unfold movF; simp only [Int.toNat_natCast])
              have lfs : fs.length ≤ k := by rw [hfs.out]; exact Nat.le_trans (List.length_filterMap_le _ _) (by rw [List.length_take]; omega)
              obtain ⟨m, hm⟩ : ∃ m, m = movF (pP g S) ⟨(i : Int), fat, (j : Int)⟩ := ⟨_, rfl⟩
              rw [← hm] at HMf
              have HFS : Hid ((g.forbid.take (k + 1)).filterMap (movF (pP g S)) = fs ++ m.toList) := Lib.hid (by rw [HTk.out, fm_snoc, ← hfs.out, hm])
              clear hfk hc hm HTk
              obtain ⟨u1, hu1⟩ : ∃ u, u = plI (pP g S) i := ⟨_, rfl⟩
              obtain ⟨u2, hu2⟩ : ∃ u, u = plI (pP g S) j := ⟨_, rfl⟩
              rw [← hu1] at p1 HMf
              rw [← hu2] at p2 HMf
              clear hu1 hu2
              have hN := hks'.lt
              clear hmem hks' hfs
              go_wp2
              go_region
              have HKB := Lib.hid (hks.out.below (((Below.refl wr.heap.size wr).alloc (Nat.le_refl _) (.cells #[.int .i64 u1, .int .i64 fat, .int .i64 u2] 78)).drew))
              cases h1 : (u1 == -1) with
              | true =>
                obtain rfl := eq_of_beq h1
                have HN : Hid (fs = (g.forbid.take (k + 1)).filterMap (movF (pP g S))) := Lib.hid (by
                  rw [HFS.out, HMf.out, if_neg (by simp)]; simp)
                go_wp2
                go_roundw
                case rel => exact ⟨k + 1, by go_num, by omega, _, fs, HKB, HN⟩
                case measure => simp [intOf]; omega
              | false =>
                have h1' : (u1 != -1) = true := by simp [bne, h1]
                cases h2 : (u2 == -1) with
                | true =>
                  obtain rfl := eq_of_beq h2
                  have HN : Hid (fs = (g.forbid.take (k + 1)).filterMap (movF (pP g S))) := Lib.hid (by
                    rw [HFS.out, HMf.out, if_neg (by simp)]; simp)
                  go_wp2
                  go_roundw
                  case rel => exact ⟨k + 1, by go_num, by omega, _, fs, HKB, HN⟩
                  case measure => simp [intOf]; omega
                | false =>
                  have h2' : (u2 != -1) = true := by simp [bne, h2]
                  have HN : Hid (fs ++ [⟨u1, fat, u2⟩] = (g.forbid.take (k + 1)).filterMap (movF (pP g S))) := Lib.hid (by
                    rw [HFS.out, HMf.out, if_pos ⟨by simpa using h1, by simpa using h2⟩]; rfl)
                  have HCN := cells_new (wr.alloc (.cells #[.int .i64 u1, .int .i64 fat, .int .i64 u2] 78)) #[.int .i64 u1, .int .i64 fat, .int .i64 u2] 78
                  rw [World.size_alloc] at HCN
                  have HCN := Lib.hid HCN
                  have HKC := Lib.hid (hks.out.below ((((Below.refl wr.heap.size wr).alloc (Nat.le_refl _) (.cells #[.int .i64 u1, .int .i64 fat, .int .i64 u2] 78)).alloc (by simp) (.cells #[.int .i64 u1, .int .i64 fat, .int .i64 u2] 78)).drew))
                  go_wp2_with (at_builtin; refine wpList_append_own _ rfl (.tmp 109) (.tmp 111) 24 rfl (w4.heap.size + 1) 78 i78 _ 3 24 Try.underlying24 ti78 tz78 ts78 tb78 rfl (by decide) _ _ _ rfl HKC.out.r3 ⟨wr.heap.size + 1, 0, none⟩ 1 1 [.int .i64 u1, .int .i64 fat, .int .i64 u2] rfl rfl HCN.out (by simp [Value.oneCell']) (by unfold maxLen; omega) (by omega) (by simp; omega) ?_; intro v5 w5 hown5 hgrow5 _; obtain ⟨ra, rc, rfl, _, _⟩ := own_slice hown5; have hka := HKC.out; have hbo5 := hka.boxo hka.r3 hgrow5; have f0 := hbo5.frozen 3; have c5 := hbo5.cell 3; have l5 := hbo5.lt; simp only [List.getElem?_toArray, List.getElem?_cons_zero, List.getElem?_cons_succ] at c5; have HKN := Lib.hid (hka.push3 ⟨u1, fat, u2⟩ _ hgrow5 hown5); clear hka hbo5 hown5 hgrow5)
                  go_roundw
                  case rel => exact ⟨k + 1, by go_num, by omega, _, _, HKN, HN⟩
                  case measure => simp [intOf]; omega
            · obtain rfl : k = g.forbid.length := by omega
              have hks' := hks.out
              have hfs' := hfs.out
              rw [List.take_length] at hfs'
              have HKS := Lib.hid hks'
              have HFS := Lib.hid hfs'
              have e1 := hks'.bg.gram.2.2.2.2
              rw [← HWa.out] at e1
              have l5 := hks'.bg.lt
              clear hks hks' hfs hfs' hlt hk
              go_wp2
              go_loopw [118] (fun i wr => ∃ k : Nat, i = .int .i64 k ∧ k ≤ g.follow.length ∧ ∃ v4 ws, Hid (KS g (sP S) (pP g S) w P1 P2 w4.heap.size (w4.heap.size + 1) st v0 v1 v3 v4 (keepL (sP S) g.sorts) ps fs ws wr)
                  ∧ Hid (ws = (g.follow.take k).filterMap (movW (sP S))))
                (fun i _ => g.follow.length - (intOf i).toNat)
              case atStart => exact ⟨0, rfl, Nat.zero_le _, _, [], HKS, Lib.hid rfl⟩
              case round =>
                clear HKS e1 l5
                obtain ⟨k, rfl, hk, v4, ws, hks, hws⟩ := hrel
                by_cases hlt : k < g.follow.length
                · obtain ⟨f, hfk⟩ : ∃ f, g.follow[k]? = some f := ⟨_, List.getElem?_eq_getElem hlt⟩
                  have hmem := List.mem_of_getElem? hfk
                  obtain ⟨b, off, hwa, hbw, hc, _⟩ := HG.out.follow k f hfk
                  rw [← HWa.out] at hwa
                  subst hwa
                  have hks' := hks.out
                  obtain ⟨i, hi, hin⟩ := HM.out.fol f hmem
                  obtain ⟨c0, c1, c2, c3, c4⟩ := Fol_at (hc.below hks'.b hbw)
                  have n1 : (k : Int) < (g.follow.length : Int) := by omega
                  have ti : (i : Int) < 1000 := by omega
                  have p1 := hks'.p1.cell hin
                  have HTk := Lib.hid (take_snoc g.follow k f hfk)
                  have lo := hks'.bo.lt
                  have lP1 := hks'.p1.lt
                  have g3 := hks'.bo.cell 4
                  simp only [List.getElem?_toArray, List.getElem?_cons_zero, List.getElem?_cons_succ] at g3
                  obtain ⟨fp, fnot⟩ := f
                  dsimp only at *
                  subst hi
                  have HMf : Hid (movW (sP S) ⟨(i : Int), fnot⟩ = if plI (sP S) i ≠ -1 then some ⟨plI (sP S) i, fnot⟩ else none) := Lib.hid (by unfold movW; simp only [Int.toNat_natCast])
                  have lws : ws.length ≤ k := by rw [hws.out]; exact Nat.le_trans (List.length_filterMap_le _ _) (by rw [List.length_take]; omega)
                  obtain ⟨m, hm⟩ : ∃ m, m = movW (sP S) ⟨(i : Int), fnot⟩ := ⟨_, rfl⟩
                  rw [← hm] at HMf
                  have HFS : Hid ((g.follow.take (k + 1)).filterMap (movW (sP S)) = ws ++ m.toList) := Lib.hid (by rw [HTk.out, fm_snoc, ← hws.out, hm])
                  clear hfk hc hm HTk
                  obtain ⟨u1, hu1⟩ : ∃ u, u = plI (sP S) i := ⟨_, rfl⟩
                  rw [← hu1] at p1 HMf
                  clear hu1
                  have hN := hks'.lt
                  clear hmem hks' hws
                  go_wp2
                  go_region
                  have HKB := Lib.hid (hks.out.below (((Below.refl wr.heap.size wr).alloc (Nat.le_refl _) (.cells #[.int .i64 u1, .int .u64 (wdI fnot 0), .int .u64 (wdI fnot 1), .int .u64 (wdI fnot 2), .int .u64 (wdI fnot 3)] 80)).drew))
                  cases h1 : (u1 == -1) with
                  | true =>
                    obtain rfl := eq_of_beq h1
                    have HN : Hid (ws = (g.follow.take (k + 1)).filterMap (movW (sP S))) := Lib.hid (by
                      rw [HFS.out, HMf.out, if_neg (by simp)]; simp)
                    go_wp2
                    go_roundw
                    case rel => exact ⟨k + 1, by go_num, by omega, _, ws, HKB, HN⟩
                    case measure => simp [intOf]; omega
                  | false =>
                    have h1' : (u1 != -1) = true := by simp [bne, h1]
                    have HN : Hid (ws ++ [⟨u1, fnot⟩] = (g.follow.take (k + 1)).filterMap (movW (sP S))) := Lib.hid (by
                      rw [HFS.out, HMf.out, if_pos (by simpa using h1)]; rfl)
                    have HCN := cells_new (wr.alloc (.cells #[.int .i64 u1, .int .u64 (wdI fnot 0), .int .u64 (wdI fnot 1), .int .u64 (wdI fnot 2), .int .u64 (wdI fnot 3)] 80)) #[.int .i64 u1, .int .u64 (wdI fnot 0), .int .u64 (wdI fnot 1), .int .u64 (wdI fnot 2), .int .u64 (wdI fnot 3)] 80
                    rw [World.size_alloc] at HCN
                    have HCN := Lib.hid HCN
                    have HKC := Lib.hid (hks.out.below ((((Below.refl wr.heap.size wr).alloc (Nat.le_refl _) (.cells #[.int .i64 u1, .int .u64 (wdI fnot 0), .int .u64 (wdI fnot 1), .int .u64 (wdI fnot 2), .int .u64 (wdI fnot 3)] 80)).alloc (by simp) (.cells #[.int .i64 u1, .int .u64 (wdI fnot 0), .int .u64 (wdI fnot 1), .int .u64 (wdI fnot 2), .int .u64 (wdI fnot 3)] 80)).drew))
                    go_wp2_with (at_builtin; refine wpList_append_own _ rfl (.tmp 133) (.tmp 135) 25 rfl (w4.heap.size + 1) 80 i80 _ 5 40 Try.underlying25 ti80 tz80 ts80 tb80 rfl (by decide) _ _ _ rfl HKC.out.r4 ⟨wr.heap.size + 1, 0, none⟩ 1 1 [.int .i64 u1, .int .u64 (wdI fnot 0), .int .u64 (wdI fnot 1), .int .u64 (wdI fnot 2), .int .u64 (wdI fnot 3)] rfl rfl HCN.out (by simp [Value.oneCell']) (by unfold maxLen; omega) (by omega) (by simp; omega) ?_; intro v5 w5 hown5 hgrow5 _; obtain ⟨ra, rc, rfl, _, _⟩ := own_slice hown5; have hka := HKC.out; have hbo5 := hka.boxo hka.r4 hgrow5; have f0 := hbo5.frozen 4; have c5 := hbo5.cell 4; have l5 := hbo5.lt; simp only [List.getElem?_toArray, List.getElem?_cons_zero, List.getElem?_cons_succ] at c5; have HKN := Lib.hid (hka.push4 ⟨u1, fnot⟩ _ hgrow5 hown5); clear hka hbo5 hown5 hgrow5)
                    go_roundw
                    case rel => exact ⟨k + 1, by go_num, by omega, _, _, HKN, HN⟩
                    case measure => simp [intOf]; omega
                · obtain rfl : k = g.follow.length := by omega
                  have hks' := hks.out
                  obtain ⟨sa', sc', rfl, _, _⟩ := own_slice hks'.r0
                  obtain ⟨pa', pc', rfl, _, _⟩ := own_slice hks'.r1
                  obtain ⟨fa', fc', rfl, _, _⟩ := own_slice hks'.r3
                  obtain ⟨wa', wc', rfl, _, _⟩ := own_slice hks'.r4
                  have hws' := hws.out
                  rw [List.take_length] at hws'
                  have HKS := Lib.hid hks'
                  have HWS := Lib.hid hws'
                  have d0 := hks'.bo.cell 0
                  have d1 := hks'.bo.cell 1
                  have d2 := hks'.bo.cell 2
                  have d3 := hks'.bo.cell 3
                  have d4 := hks'.bo.cell 4
                  simp only [List.getElem?_toArray, List.getElem?_cons_zero, List.getElem?_cons_succ] at d0 d1 d2 d3 d4
                  have f0 : wr.frozen? ⟨w.heap.size + 1 + 1, 0, none⟩ = false := hks'.br.frozen 0
                  have f1 : wr.frozen? ⟨w.heap.size + 1 + 1, 1, none⟩ = false := hks'.br.frozen 1
                  have f2 : wr.frozen? ⟨w.heap.size + 1 + 1, 2, none⟩ = false := hks'.br.frozen 2
                  have f3 : wr.frozen? ⟨w.heap.size + 1 + 1, 3, none⟩ = false := hks'.br.frozen 3
                  have f4 : wr.frozen? ⟨w.heap.size + 1 + 1, 4, none⟩ = false := hks'.br.frozen 4
                  have b0 := hks'.br.cell 0
                  have b1 := hks'.br.cell 1
                  have b2 := hks'.br.cell 2
                  have b3 := hks'.br.cell 3
                  have b4 := hks'.br.cell 4
                  simp only [List.getElem?_toArray, List.getElem?_cons_zero, List.getElem?_cons_succ] at b0 b1 b2 b3 b4
                  have lr : w.heap.size + 1 + 1 < wr.heap.size := hks'.br.lt
                  clear hks hks' hws hws' hlt hk
                  go_wp2
                  obtain ⟨WF, hWF⟩ : ∃ W, W = ((((wr.setCell ⟨w.heap.size + 1 + 1, 0, none⟩ (.slice sa' (keepL (sP S) g.sorts).length sc')).setCell ⟨w.heap.size + 1 + 1, 1, none⟩ (.slice pa' ps.length pc')).setCell ⟨w.heap.size + 1 + 1, 2, none⟩ (.int .i64 st)).setCell ⟨w.heap.size + 1 + 1, 3, none⟩ (.slice fa' fs.length fc')).setCell ⟨w.heap.size + 1 + 1, 4, none⟩ (.slice wa' ws.length wc') := ⟨_, rfl⟩
                  rw [← hWF]
                  obtain ⟨hbF, hBF, hGF, hNF⟩ := HKS.out.fin hWF
                  have q0 := hbF.cell 0
                  have q1 := hbF.cell 1
                  have q2 := hbF.cell 2
                  have q3 := hbF.cell 3
                  have q4 := hbF.cell 4
                  simp only [List.getElem?_toArray, List.getElem?_cons_zero, List.getElem?_cons_succ] at q0 q1 q2 q3 q4
                  refine bodyPost_ret (v := .agg #[.slice sa' (keepL (sP S) g.sorts).length sc', .slice pa' ps.length pc', .int .i64 st, .slice fa' fs.length fc', .slice wa' ws.length wc']) (by simp [results, Try.results53, go_sem, q0, q1, q2, q3, q4]) rfl
                    ⟨⟨sa', sc', keepL (sP S) g.sorts, pa', pc', ps, st, fa', fc', fs, wa', wc', ws⟩, rfl, ⟨rfl, HPlI.out, HPS.out, HFS.out, HWS.out⟩, hGF, hNF, hBF⟩
end Go.Proofs.Ytiihdbchchnncaa
