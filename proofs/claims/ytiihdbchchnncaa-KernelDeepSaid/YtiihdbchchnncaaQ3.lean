import Derived.RegionTactic
import Derived.BigRegion
import Derived.Test.YtiihdbchchnncaaQ2
namespace Go.Proofs.Ytiihdbchchnncaa
open Go Go.RowKit

/-- A symbol whose sort stands at another place. -/
def movS (p : Nat → Bool) (s : SymM) : SymM := if s.kind = 1 then ⟨s.kind, s.set, plI p s.sort.toNat⟩ else s
theorem Try.info68 : (Try.prog.info? 68).map (fun i => (i.zero, i.size, i.bytes)) = some (some (.agg #[.int .i64 0, .int .u64 0, .int .u64 0, .int .u64 0, .int .u64 0, .int .i64 0]), 6, 48) := by kernel_rfl
theorem sym_one (x : SymM) : ∀ u ∈ (symC x).toList, u.oneCell' = true := by simp [symC, Value.oneCell']

theorem cells_sort {l : List SymM} {k : Nat} {s : SymM} (h : l[k]? = some s) (v : Int) : (cellsL symC l).set (k * 6 + 5) (.int .i64 v) = cellsL symC (l.set k ⟨s.kind, s.set, v⟩) := by
  induction l generalizing k with
  | nil => simp at h
  | cons y r ih =>
    have e : ∀ (z : SymM) (q : List SymM), cellsL symC (z :: q) = (symC z).toList ++ cellsL symC q := fun z q => by simp [cellsL]
    cases k with
    | zero =>
      simp at h
      subst h
      rw [List.set_cons_zero, e, e]
      simp [symC]
    | succ k =>
      rw [List.set_cons_succ, e, e, List.set_append_right _ _ (by simp [symC]; omega), ← ih (by simpa using h)]
      congr 2
      simp [symC]; omega

theorem mov_step (p : Nat → Bool) (l : List SymM) (k : Nat) (s : SymM) (h : l[k]? = some s) : ((l.take k).map (movS p) ++ l.drop k).set k (movS p s) = (l.take (k + 1)).map (movS p) ++ l.drop (k + 1) := by
  have hk : k < l.length := (List.getElem?_eq_some_iff.1 h).1
  have hs : l[k] = s := (List.getElem?_eq_some_iff.1 h).2
  rw [List.set_append_right _ _ (by simp; omega), take_snoc l k s h, List.drop_eq_getElem_cons hk, hs]
  simp [Nat.min_eq_left (Nat.le_of_lt hk)]
theorem mov_at (p : Nat → Bool) (l : List SymM) (k : Nat) (s : SymM) (h : l[k]? = some s) : ((l.take k).map (movS p) ++ l.drop k)[k]? = some s := by
  have hk : k < l.length := (List.getElem?_eq_some_iff.1 h).1
  rw [List.getElem?_append_right (by simp; omega)]
  simp [Nat.min_eq_left (Nat.le_of_lt hk), h]

theorem own_slice {w : World} {base e size : Nat} {v : Value} {n : Nat} {xs : List Value} (h : w.ownsRow base e size v n xs) : ∃ a c, v = .slice a n c ∧ (∀ k, k < n → ∃ g, a = some ⟨g, 0, none⟩ ∧ base ≤ g) ∧ (a = none → c = 0) := by
  rcases h.2 with ⟨rfl, h0⟩ | ⟨g, cap, cur, rfl, hg, _⟩
  · exact ⟨none, 0, by rw [h0], fun k hk => by omega, fun _ => rfl⟩
  · exact ⟨_, cap, rfl, fun k hk => ⟨g, rfl, hg⟩, fun h => by cases h⟩

/-- A production moved: where its symbols lie is left open. -/
def movP (p : Nat → Bool) (ra : Option Addr) (rc : Nat) (x : ProdM) : ProdM := ⟨plI p x.left.toNat, ra, rc, x.right.map (movS p), x.cons, x.role, x.prefer, x.avoid, x.frm⟩

set_option maxRecDepth 100000 in
set_option maxHeartbeats 2000000 in
theorem moved_any (x : ProdM) (B n : Nat) (hn : n ≤ 1000) (p : Nat → Bool) (w : World) (hx : ProdIn w x) (hr : x.right.length ≤ 30) (hnil : x.ra = none → x.rc = 0) (hP : PL w B n p)
    (hl : ∃ k : Nat, x.left = k ∧ k < n) (hs : ∀ s, s ∈ x.right → s.kind = 1 → ∃ k : Nat, s.sort = k ∧ k < n) :
    Calls Try.prog 73 #[prodV x, .pointer (some ⟨B, 0, none⟩)] w fun e w' => ∃ ra rc, e = .returned (prodV (movP p ra rc x)) ∧ w'.ownsRow w.heap.size 68 6 (.slice ra x.right.length rc) x.right.length (cellsL symC (x.right.map (movS p))) ∧ Below w.heap.size w w' := by
  obtain ⟨i0, hi, hz0, hz1, hz2⟩ := info_parts Try.info68
  obtain ⟨j, hj, hjn⟩ := hl
  have HS := Lib.hid hs
  have HX := Lib.hid hx
  have HP := Lib.hid hP
  have hBw := hP.lt
  clear hs hx hP
  obtain ⟨left, xra, xrc, right, cons, role, prefer, avoid, frm⟩ := x
  unfold ProdIn at HX
  unfold prodV at *
  unfold movP
  unfold prodC at *
  dsimp only at *
  subst hj
  obtain ⟨W1, hW1⟩ : ∃ W1, W1 = (w.alloc (.cells #[.int .i64 (j : Int), .slice xra right.length xrc, .string cons, .int .i64 role, .bool prefer, .bool avoid, .int .i64 frm] 46)).alloc (.cells #[.int .i64 0, .slice none 0 0, .string ⟨#[]⟩, .int .i64 0, .bool false, .bool false, .int .i64 0] 46) := ⟨_, rfl⟩
  have hs1 : W1.heap.size = w.heap.size + 2 := by rw [hW1]; simp
  have hB1 : Below w.heap.size w W1 := by rw [hW1]; exact ((Below.refl _ _).alloc (Nat.le_refl _) _).alloc (by simp) _
  have hb1 : Blk W1 w.heap.size 46 #[.int .i64 (j : Int), .slice xra right.length xrc, .string cons, .int .i64 role, .bool prefer, .bool avoid, .int .i64 frm] := by rw [hW1]; exact (Blk.new w 46 _).alloc _
  have hb2 : Blk W1 (w.heap.size + 1) 46 #[.int .i64 0, .slice none 0 0, .string ⟨#[]⟩, .int .i64 0, .bool false, .bool false, .int .i64 0] := by
    have h := Blk.new (w.alloc (.cells #[.int .i64 (j : Int), .slice xra right.length xrc, .string cons, .int .i64 role, .bool prefer, .bool avoid, .int .i64 frm] 46)) 46 #[.int .i64 0, .slice none 0 0, .string ⟨#[]⟩, .int .i64 0, .bool false, .bool false, .int .i64 0]
    rw [World.size_alloc] at h
    rw [hW1]; exact h
  have HRow1 := Lib.hid (RowOf.belowN HX.out hB1)
  have HB1 := Lib.hid hB1
  have Hb1 := Lib.hid hb1
  have Hb2 := Lib.hid hb2
  have HW1 := Lib.hid hW1
  have Hs1 := Lib.hid hs1
  have HRowL : Hid (RowSym ((w.alloc (.cells #[.int .i64 (j : Int), .slice xra right.length xrc, .string cons, .int .i64 role, .bool prefer, .bool avoid, .int .i64 frm] 46)).alloc (.cells #[.int .i64 0, .slice none 0 0, .string ⟨#[]⟩, .int .i64 0, .bool false, .bool false, .int .i64 0] 46)) xra right) := Lib.hid (by rw [← hW1]; exact HRow1.out)
  clear hb1 hb2 hB1 hW1 hs1
  obtain ⟨m, hm⟩ : ∃ m, m = right.length := ⟨_, rfl⟩
  clear hm m
  go_enter Try.func73, Try.ntmps73
  go_wp2_with (at_builtin; refine wpList_append_row rfl (.const (.slice none 0 0)) (.tmp 9) 43 rfl (w.heap.size + 2) 68 i0 _ 6 48 Try.underlying43 hi hz0 hz1 hz2 rfl (by decide) (.slice none 0 0) 0 [] rfl (World.ownsRow_nil _ _ _ _) xra xrc right rfl HRowL.out (fun _ => rfl) sym_one hnil (by unfold maxLen; omega) (by omega) (by simp) ?_; intro v1 w1 hown1 hgrow1; simp only [Nat.zero_add, List.nil_append] at hown1; obtain ⟨ra, rc, rfl, hra, hrn⟩ := own_slice hown1)
  rw [← HW1.out] at hgrow1
  have hgB : Below W1.heap.size W1 w1 := ⟨hgrow1.os, hgrow1.tape, hgrow1.output, hgrow1.size, fun k hk => hgrow1.block k hk (fun e => by cases e)⟩
  have HRa := Lib.hid hra
  have hO0 : Hid (w1.ownsRow (w.heap.size + 2) 68 6 (.slice ra right.length rc) right.length (cellsL symC ((right.take 0).map (movS p) ++ right.drop 0))) := Lib.hid (by simpa using hown1)
  have hb10 := Lib.hid (Hb1.out.below hgB Hb1.out.lt)
  have hb20 := Lib.hid (Hb2.out.below hgB Hb2.out.lt)
  have hB0 := Lib.hid (HB1.out.trans (hgB.mono HB1.out.size))
  clear hown1 hgrow1 hgB hra
  go_loopw [13] (fun i wr => ∃ k : Nat, i = .int .i64 k ∧ k ≤ right.length ∧ Hid (wr.ownsRow (w.heap.size + 2) 68 6 (.slice ra right.length rc) right.length (cellsL symC ((right.take k).map (movS p) ++ right.drop k)))
      ∧ Hid (Blk wr w.heap.size 46 #[.int .i64 (j : Int), .slice xra right.length xrc, .string cons, .int .i64 role, .bool prefer, .bool avoid, .int .i64 frm])
      ∧ Hid (Blk wr (w.heap.size + 1) 46 #[.int .i64 0, .slice none 0 0, .string ⟨#[]⟩, .int .i64 0, .bool false, .bool false, .int .i64 0]) ∧ Hid (Below w.heap.size w wr))
    (fun i _ => right.length - (intOf i).toNat)
  case atStart => exact ⟨0, rfl, Nat.zero_le _, hO0, hb10, hb20, hB0⟩
  case round =>
    clear hO0 hb10 hb20 hB0
    obtain ⟨k, rfl, hk, hO, hb1, hb2, hB⟩ := hrel
    by_cases hlt : k < right.length
    · obtain ⟨s, hsk⟩ : ∃ s, right[k]? = some s := ⟨_, List.getElem?_eq_getElem hlt⟩
      have HSm := Lib.hid (HS.out s (List.mem_of_getElem? hsk))
      have HAt := Lib.hid (mov_at p right k s hsk)
      have HStep := Lib.hid (mov_step p right k s hsk)
      obtain ⟨g, rfl, hgb⟩ := HRa.out k hlt
      have hO' := hO.out
      have hrl : right.length = ((right.take k).map (movS p) ++ right.drop k).length := by simp; omega
      obtain ⟨L, hL⟩ : ∃ L, L = (right.take k).map (movS p) ++ right.drop k := ⟨_, rfl⟩
      rw [← hL] at hO' hrl HAt HStep
      have HC5 : Hid (wr.cell? ⟨g, k * 6 + 5, none⟩ = some (.int .i64 s.sort) ∧ CellsAt wr g (k * 6) (symC s)) := Lib.hid (by
        have hc : CellsAt wr g (k * 6) (symC s) := fun q u hu => by
          have hq : q < 6 := (Array.getElem?_eq_some_iff.1 hu).1
          rw [hO'.cellAt (k * 6 + q) (by omega), cellsL_at (cs := symC) (fun _ => rfl) L k s HAt.out q hq, hu]
        exact ⟨hc 5 _ rfl, hc⟩)
      obtain ⟨c0, c1, c2, c3, c4, c5⟩ := Sym_at HC5.out.2
      have f5 := hO'.frozenAt (k * 6 + 5)
      have lg : g < wr.heap.size := lt_of_cell c0
      have n1 : (k : Int) < (right.length : Int) := by omega
      have hszr := hB.out.size
      have HO := Lib.hid hO'
      clear hO hO' hL hrl hsk
      obtain ⟨sk, ss, so⟩ := s
      dsimp only at *
      have HBx : Hid (Below wr.heap.size wr (wr.alloc (.cells #[.int .i64 sk, .int .u64 (wdI ss 0), .int .u64 (wdI ss 1), .int .u64 (wdI ss 2), .int .u64 (wdI ss 3), .int .i64 so] 68))) := Lib.hid ((Below.refl _ _).alloc (Nat.le_refl _) _)
      have HO1 := Lib.hid (own_below HO.out HBx.out (Nat.le_refl _))
      have Hb11 := Lib.hid (hb1.out.below HBx.out hb1.out.lt)
      have Hb21 := Lib.hid (hb2.out.below HBx.out hb2.out.lt)
      have HB1' := Lib.hid (hB.out.trans (HBx.out.mono hszr))
      by_cases h1 : sk = 1
      · subst h1
        obtain ⟨t, rfl, ht⟩ := HSm.out rfl
        have p5 := (HP.out.below hB.out hBw).cell ht
        have lB : B < wr.heap.size := by omega
        have t1 : (t : Int) < 1000 := by omega
        have HO2 : Hid ((wr.setCell ⟨g, k * 6 + 5, none⟩ (.int .i64 (plI p t))).ownsRow (w.heap.size + 2) 68 6 (.slice (some ⟨g, 0, none⟩) right.length rc) right.length (cellsL symC ((right.take (k + 1)).map (movS p) ++ right.drop (k + 1)))) := Lib.hid (by
          have h := own_set HO.out (k * 6 + 5) (.int .i64 (plI p t))
          rw [cells_sort HAt.out] at h
          rw [← HStep.out]
          unfold movS
          rw [if_pos rfl, Int.toNat_natCast]
          exact h)
        have Hb12 := Lib.hid (hb1.out.other (a := ⟨g, k * 6 + 5, none⟩) (by show w.heap.size ≠ g; omega) (.int .i64 (plI p t)))
        have Hb22 := Lib.hid (hb2.out.other (a := ⟨g, k * 6 + 5, none⟩) (by show w.heap.size + 1 ≠ g; omega) (.int .i64 (plI p t)))
        have HB2 := Lib.hid (hB.out.setCell (p := ⟨g, k * 6 + 5, none⟩) (by show w.heap.size ≤ g; omega) (.int .i64 (plI p t)))
        clear HO HO1 Hb11 Hb21 HB1' HC5 hb1 hb2 hB HAt HStep HSm
        generalize plI p t = pv at *
        go_wp2
        go_region
        go_wp2
        go_roundw
        case rel => exact ⟨k + 1, by go_num, by omega, Lib.hid (HO2.out.alloc _), Lib.hid (Hb12.out.alloc _), Lib.hid (Hb22.out.alloc _), Lib.hid (HB2.out.alloc (by rw [World.size_setCell]; exact hszr) _).drew⟩
        case measure => simp [intOf]; omega
      · have e1 : (sk == 1) = false := by simpa using h1
        have HO2 : Hid ((wr.alloc (.cells #[.int .i64 sk, .int .u64 (wdI ss 0), .int .u64 (wdI ss 1), .int .u64 (wdI ss 2), .int .u64 (wdI ss 3), .int .i64 so] 68)).ownsRow (w.heap.size + 2) 68 6 (.slice (some ⟨g, 0, none⟩) right.length rc) right.length (cellsL symC ((right.take (k + 1)).map (movS p) ++ right.drop (k + 1)))) := Lib.hid (by
          rw [← HStep.out]
          unfold movS
          rw [if_neg h1]
          have : L.set k ⟨sk, ss, so⟩ = L := by
            apply List.ext_getElem?
            intro q
            rw [List.getElem?_set]
            split
            · next e => subst e; rw [HAt.out]; have := (List.getElem?_eq_some_iff.1 HAt.out).1; simp [this]
            · rfl
          rw [this]; exact HO1.out)
        clear HO HO1 HC5 hb1 hb2 hB HAt HStep HSm h1
        go_wp2
        go_roundw
        case rel => exact ⟨k + 1, by go_num, by omega, HO2, Hb11, Hb21, HB1'⟩
        case measure => simp [intOf]; omega
    · obtain rfl : k = right.length := by omega
      have hO2 := hO.out
      rw [List.take_length, List.drop_length, List.append_nil] at hO2
      have e0 := hb1.out.cell 0
      have e1 := hb1.out.cell 1
      have e2 := hb1.out.cell 2
      have e3 := hb1.out.cell 3
      have e4 := hb1.out.cell 4
      have e5 := hb1.out.cell 5
      have e6 := hb1.out.cell 6
      have f0 := hb1.out.frozen 0
      have f1 := hb1.out.frozen 1
      have b0 := hb2.out.cell 0
      have b1 := hb2.out.cell 1
      have b2 := hb2.out.cell 2
      have b3 := hb2.out.cell 3
      have b4 := hb2.out.cell 4
      have b5 := hb2.out.cell 5
      have b6 := hb2.out.cell 6
      have h0 := hb2.out.frozen 0
      have h1 := hb2.out.frozen 1
      have h2 := hb2.out.frozen 2
      have h3 := hb2.out.frozen 3
      have h4 := hb2.out.frozen 4
      have h5 := hb2.out.frozen 5
      have h6 := hb2.out.frozen 6
      simp only [List.getElem?_toArray, List.getElem?_cons_zero, List.getElem?_cons_succ] at e0 e1 e2 e3 e4 e5 e6 b0 b1 b2 b3 b4 b5 b6
      have lg0 := hb1.out.lt
      have lg1 := hb2.out.lt
      have p5 := (HP.out.below hB.out hBw).cell hjn
      have lB : B < wr.heap.size := by have := hB.out.size; omega
      have t1 : (j : Int) < 1000 := by omega
      have HO2 := Lib.hid hO2
      obtain ⟨pv, hpv⟩ : ∃ v, v = plI p j := ⟨_, rfl⟩
      rw [← hpv] at p5
      have HPV : Hid (plI p ((j : Int)).toNat = pv) := Lib.hid (by rw [Int.toNat_natCast]; exact hpv.symm)
      have HBf := Lib.hid hB.out
      have Hbb := Lib.hid hb2.out
      clear hO hO2 hb1 hb2 hpv
      go_wp2
      go_region
      go_wp2
      have hbF : Blk (((((((((wr.setCell ⟨w.heap.size, 0, none⟩ (.int .i64 pv)).setCell ⟨w.heap.size, 1, none⟩ (.slice ra right.length rc)).setCell ⟨w.heap.size + 1, 0, none⟩ (.int .i64 pv)).setCell ⟨w.heap.size + 1, 1, none⟩ (.slice ra right.length rc)).setCell ⟨w.heap.size + 1, 2, none⟩ (.string cons)).setCell ⟨w.heap.size + 1, 3, none⟩ (.int .i64 role)).setCell ⟨w.heap.size + 1, 4, none⟩ (.bool prefer)).setCell ⟨w.heap.size + 1, 5, none⟩ (.bool avoid)).setCell ⟨w.heap.size + 1, 6, none⟩ (.int .i64 frm)) (w.heap.size + 1) 46 #[.int .i64 pv, .slice ra right.length rc, .string cons, .int .i64 role, .bool prefer, .bool avoid, .int .i64 frm] := by
        have h := (((((((((Hbb.out.other (a := ⟨w.heap.size, 0, none⟩) (by show w.heap.size + 1 ≠ w.heap.size; omega) (.int .i64 pv)).other (a := ⟨w.heap.size, 1, none⟩) (by show w.heap.size + 1 ≠ w.heap.size; omega) (.slice ra right.length rc)).set 0 (.int .i64 pv)).set 1 (.slice ra right.length rc)).set 2 (.string cons)).set 3 (.int .i64 role)).set 4 (.bool prefer)).set 5 (.bool avoid)).set 6 (.int .i64 frm))
        simpa using h
      have hoF := own_mono (ownsRow_setCell_below (ownsRow_setCell_below (ownsRow_setCell_below (ownsRow_setCell_below (ownsRow_setCell_below (ownsRow_setCell_below (ownsRow_setCell_below (ownsRow_setCell_below (ownsRow_setCell_below HO2.out (a := ⟨w.heap.size, 0, none⟩) (by show w.heap.size < w.heap.size + 2; omega) (.int .i64 pv)) (a := ⟨w.heap.size, 1, none⟩) (by show w.heap.size < w.heap.size + 2; omega) (.slice ra right.length rc)) (a := ⟨w.heap.size + 1, 0, none⟩) (by show w.heap.size + 1 < w.heap.size + 2; omega) (.int .i64 pv)) (a := ⟨w.heap.size + 1, 1, none⟩) (by show w.heap.size + 1 < w.heap.size + 2; omega) (.slice ra right.length rc)) (a := ⟨w.heap.size + 1, 2, none⟩) (by show w.heap.size + 1 < w.heap.size + 2; omega) (.string cons)) (a := ⟨w.heap.size + 1, 3, none⟩) (by show w.heap.size + 1 < w.heap.size + 2; omega) (.int .i64 role)) (a := ⟨w.heap.size + 1, 4, none⟩) (by show w.heap.size + 1 < w.heap.size + 2; omega) (.bool prefer)) (a := ⟨w.heap.size + 1, 5, none⟩) (by show w.heap.size + 1 < w.heap.size + 2; omega) (.bool avoid)) (a := ⟨w.heap.size + 1, 6, none⟩) (by show w.heap.size + 1 < w.heap.size + 2; omega) (.int .i64 frm)) (show w.heap.size ≤ w.heap.size + 2 by omega)
      have hBF := (((((((((HBf.out.setCell (p := ⟨w.heap.size, 0, none⟩) (by show w.heap.size ≤ w.heap.size; omega) (.int .i64 pv)).setCell (p := ⟨w.heap.size, 1, none⟩) (by show w.heap.size ≤ w.heap.size; omega) (.slice ra right.length rc)).setCell (p := ⟨w.heap.size + 1, 0, none⟩) (by show w.heap.size ≤ w.heap.size + 1; omega) (.int .i64 pv)).setCell (p := ⟨w.heap.size + 1, 1, none⟩) (by show w.heap.size ≤ w.heap.size + 1; omega) (.slice ra right.length rc)).setCell (p := ⟨w.heap.size + 1, 2, none⟩) (by show w.heap.size ≤ w.heap.size + 1; omega) (.string cons)).setCell (p := ⟨w.heap.size + 1, 3, none⟩) (by show w.heap.size ≤ w.heap.size + 1; omega) (.int .i64 role)).setCell (p := ⟨w.heap.size + 1, 4, none⟩) (by show w.heap.size ≤ w.heap.size + 1; omega) (.bool prefer)).setCell (p := ⟨w.heap.size + 1, 5, none⟩) (by show w.heap.size ≤ w.heap.size + 1; omega) (.bool avoid)).setCell (p := ⟨w.heap.size + 1, 6, none⟩) (by show w.heap.size ≤ w.heap.size + 1; omega) (.int .i64 frm))
      generalize (((((((((wr.setCell ⟨w.heap.size, 0, none⟩ (.int .i64 pv)).setCell ⟨w.heap.size, 1, none⟩ (.slice ra right.length rc)).setCell ⟨w.heap.size + 1, 0, none⟩ (.int .i64 pv)).setCell ⟨w.heap.size + 1, 1, none⟩ (.slice ra right.length rc)).setCell ⟨w.heap.size + 1, 2, none⟩ (.string cons)).setCell ⟨w.heap.size + 1, 3, none⟩ (.int .i64 role)).setCell ⟨w.heap.size + 1, 4, none⟩ (.bool prefer)).setCell ⟨w.heap.size + 1, 5, none⟩ (.bool avoid)).setCell ⟨w.heap.size + 1, 6, none⟩ (.int .i64 frm)) = WF at *
      have q0 := hbF.cell 0
      have q1 := hbF.cell 1
      have q2 := hbF.cell 2
      have q3 := hbF.cell 3
      have q4 := hbF.cell 4
      have q5 := hbF.cell 5
      have q6 := hbF.cell 6
      simp only [List.getElem?_toArray, List.getElem?_cons_zero, List.getElem?_cons_succ] at q0 q1 q2 q3 q4 q5 q6
      refine bodyPost_ret (v := .agg #[.int .i64 pv, .slice ra right.length rc, .string cons, .int .i64 role, .bool prefer, .bool avoid, .int .i64 frm]) (by simp [results, Try.results73, go_sem, q0, q1, q2, q3, q4, q5, q6]) rfl ⟨ra, rc, ?_, hoF, hBF.drew⟩
      rw [HPV.out, List.length_map]
end Go.Proofs.Ytiihdbchchnncaa
