import Derived.Laws.AppendOwnNone
import Derived.RegionTactic
import Derived.BigRegion
import Derived.Laws.EntriesVeiled
import Derived.Deep.RegionLaw
import Derived.Test.YtiihdbchchnncaaM2
import Derived.Test.YtiihdbchchnncaaM4
section
namespace Go.Proofs.Ytiihdbchchnncaa
open Go Go.RowKit

/-- Where the first one stands that is not told. -/
def deadI (L : List Bool) : Int := firstI (fun b => !b) L
/-- Well's answer. -/
def WellP (g : GramM) (r : Int × Int) : Prop :=
  if checkB g then ∃ L, Live g L ∧ ((0 ≤ deadI L ∧ r = (161, deadI L)) ∨ (deadI L < 0 ∧ ∃ R, ReachL g L R ∧ r = if 0 ≤ deadI R then (162, deadI R) else (0, 0))) else r = (160, 0)

set_option maxRecDepth 100000 in
set_option maxHeartbeats 2000000 in
theorem well_any (g : GramM) (w : World) (hg : GIn w g) (hf : FitG g) : Calls Try.prog 13 #[gramV g] w fun e w' => ∃ r, WellP g r ∧ e = .returned (.tuple #[.int .i64 r.1, .int .i64 r.2]) ∧ Below w.heap.size w w' := by
  have hB1 : Below w.heap.size w (w.alloc (.cells (gramC g) 27)) := (Below.refl _ _).alloc (Nat.le_refl _) _
  have HCk := Lib.hid (check_any g _ (hg.below hB1) hf)
  have HG := Lib.hid hg
  have HB := Lib.hid hB1
  have HK := Lib.hid (Blk.new w 27 (gramC g))
  have HFit := Lib.hid hf
  have HRes : Hid (∀ r w', WellP g r → Below w.heap.size w w' → ∃ r', WellP g r' ∧ Ending.returned (.tuple #[.int .i64 r.1, .int .i64 r.2]) = Ending.returned (.tuple #[.int .i64 r'.1, .int .i64 r'.2]) ∧ Below w.heap.size w w') := Lib.hid (fun r w' h h2 => ⟨r, h, rfl, h2⟩)
  clear hg hf hB1
  cases hq : checkB g with
  | false =>
    have HP : Hid (WellP g (160, 0)) := Lib.hid (by unfold WellP; rw [hq]; rfl)
    rw [hq] at HCk
    clear hq
    unfold gramV gramC at *
    go_enter Try.func13, Try.ntmps13
    go_wp2_with fail
    refine HCk.out.mono ?_
    rintro e w3 ⟨rfl, hB3⟩
    have HF := Lib.hid (HRes.out _ w3 HP.out (HB.out.trans (hB3.mono HB.out.size)))
    clear hB3
    dsimp only at HF
    have he : errI false = 160 := rfl
    rw [he]
    clear he
    go_wp2
    go_ret2
    exact HF.out
  | true =>
    have hm := mayB_of hq
    have hbig : ∀ L : List Bool, L.length = g.sorts.length → L.length ≤ 1048576 := fun L h => by rw [h]; exact HFit.out.fit.sorts
    have HBig := Lib.hid hbig
    have HPr := Lib.hid (fun W (hW : Below w.heap.size w W) => productive_any g hm HFit.out.fit W (HG.out.below hW))
    have HRe := Lib.hid (fun L (hL : L.length = g.sorts.length) W (hW : Below w.heap.size w W) aL cL hrow => reached_any g hm L hL W (HG.out.below hW) aL cL hrow)
    have HP1 : Hid (∀ L, Live g L → 0 ≤ deadI L → WellP g (161, deadI L)) := Lib.hid (fun L h1 h2 => by unfold WellP; rw [hq]; exact ⟨L, h1, .inl ⟨h2, rfl⟩⟩)
    have HP2 : Hid (∀ L R, Live g L → ReachL g L R → deadI L < 0 → 0 ≤ deadI R → WellP g (162, deadI R)) := Lib.hid (fun L R h1 h2 h3 h4 => by unfold WellP; rw [hq]; exact ⟨L, h1, .inr ⟨h3, R, h2, by rw [if_pos h4]⟩⟩)
    have HP3 : Hid (∀ L R, Live g L → ReachL g L R → deadI L < 0 → deadI R < 0 → WellP g (0, 0)) := Lib.hid (fun L R h1 h2 h3 h4 => by unfold WellP; rw [hq]; exact ⟨L, h1, .inr ⟨h3, R, h2, by rw [if_neg (by omega)]⟩⟩)
    rw [hq] at HCk
    have hl0 := HK.out.lt
    clear hq hbig hm
    unfold gramV at *
    unfold gramC at HCk HK HB hl0 ⊢
    have he : errI true = 0 := rfl
    rw [he] at HCk
    clear he
    go_enter Try.func13, Try.ntmps13
    go_wp2_with fail
    refine HCk.out.mono ?_
    rintro e w3 ⟨rfl, hB3⟩
    have HB3 := Lib.hid (HB.out.trans (hB3.mono HB.out.size))
    have HK3 := Lib.hid (HK.out.below hB3 HK.out.lt)
    have c0 := HK3.out.cell 0
    have c1 := HK3.out.cell 1
    have c2 := HK3.out.cell 2
    have c3 := HK3.out.cell 3
    have c4 := HK3.out.cell 4
    have l3 := HK3.out.lt
    simp only [List.getElem?_toArray, List.getElem?_cons_zero, List.getElem?_cons_succ] at c0 c1 c2 c3 c4
    have HPr3 := Lib.hid (HPr.out w3 HB3.out)
    unfold gramC at HPr3
    clear hB3
    go_wp2_with fail
    with_reducible refine HPr3.out.mono ?_
    rintro e w4 ⟨L, hLv, rfl, hq4, hB4⟩
    have HB4 := Lib.hid (HB3.out.trans (hB4.mono HB3.out.size))
    have HK4 := Lib.hid (HK3.out.below hB4 HK3.out.lt)
    have d0 := HK4.out.cell 0
    have d1 := HK4.out.cell 1
    have d2 := HK4.out.cell 2
    have d3 := HK4.out.cell 3
    have d4 := HK4.out.cell 4
    have l4 := HK4.out.lt
    simp only [List.getElem?_toArray, List.getElem?_cons_zero, List.getElem?_cons_succ] at d0 d1 d2 d3 d4
    have HLv := Lib.hid hLv
    have HIx := Lib.hid (indexBool_any (some ⟨w3.heap.size + 1, 0, none⟩) L.length L w4 hq4.row (HBig.out L hLv.1))
    have HRe4 := Lib.hid (HRe.out L hLv.1 w4 HB4.out (some ⟨w3.heap.size + 1, 0, none⟩) L.length hq4.row)
    have HD : Hid (deadI L = firstI (fun b => !b) L) := Lib.hid rfl
    unfold gramC at HRe4
    rw [← HD.out] at HIx
    clear hLv hq4 hB4 c0 c1 c2 c3 c4 HPr3 HPr HRe HD
    obtain ⟨dl, hdl⟩ : ∃ d, d = deadI L := ⟨_, rfl⟩
    rw [← hdl] at HIx
    have HDl := Lib.hid hdl
    clear hdl
    by_cases h1 : 0 ≤ dl
    · have HF := Lib.hid (HRes.out _ w4 (HP1.out L HLv.out (by rw [← HDl.out]; exact h1)) HB4.out)
      rw [← HDl.out] at HF
      dsimp only at HF
      clear HRe4
      go_wp2_with (go_at_call 36; (with_reducible refine HIx.out.mono ?_); rintro e w5 ⟨rfl, rfl⟩)
      go_ret2
      exact HF.out
    · have hneg : dl < 0 := by omega
      go_wp2_with (go_at_call 36; (with_reducible refine HIx.out.mono ?_); rintro e w5 ⟨rfl, rfl⟩)
      with_reducible refine HRe4.out.mono ?_
      rintro e w5 ⟨R, hR, rfl, hq5, hB5⟩
      have HB5 := Lib.hid (HB4.out.trans (hB5.mono HB4.out.size))
      have HIx2 := Lib.hid (indexBool_any (some ⟨w4.heap.size + 1 + 1, 0, none⟩) R.length R w5 hq5.row (HBig.out R hR.1))
      have HD : Hid (deadI R = firstI (fun b => !b) R) := Lib.hid rfl
      rw [← HD.out] at HIx2
      obtain ⟨dr, hdr⟩ : ∃ d, d = deadI R := ⟨_, rfl⟩
      rw [← hdr] at HIx2
      have HDr := Lib.hid hdr
      have HRl := Lib.hid hR
      clear hdr hR hq5 hB5 d0 d1 d2 d3 d4 HRe4 HD
      by_cases h2 : 0 ≤ dr
      · have HF := Lib.hid (HRes.out _ w5 (HP2.out L R HLv.out HRl.out (by rw [← HDl.out]; exact hneg) (by rw [← HDr.out]; exact h2)) HB5.out)
        rw [← HDr.out] at HF
        dsimp only at HF
        go_wp2_with (go_at_call 36; (with_reducible refine HIx2.out.mono ?_); rintro e w6 ⟨rfl, rfl⟩)
        go_ret2
        exact HF.out
      · have HF := Lib.hid (HRes.out _ w5 (HP3.out L R HLv.out HRl.out (by rw [← HDl.out]; exact hneg) (by rw [← HDr.out]; omega)) HB5.out)
        dsimp only at HF
        go_wp2_with (go_at_call 36; (with_reducible refine HIx2.out.mono ?_); rintro e w6 ⟨rfl, rfl⟩)
        go_ret2
        exact HF.out
end Go.Proofs.Ytiihdbchchnncaa
end
section
namespace Go.Proofs.Ytiihdbchchnncaa
open Go Go.RowKit

/-- The numbers of a sort's productions. -/
def ofK (l : List ProdM) (n : Int) : List Int := (l.zipIdx.filter fun p => p.1.left == n).map fun p => (p.2 : Int)
theorem ofK_snoc (l : List ProdM) (x : ProdM) (n : Int) : ofK (l ++ [x]) n = ofK l n ++ if x.left == n then [(l.length : Int)] else [] := by
  unfold ofK
  rw [List.zipIdx_append, List.filter_append, List.map_append]
  congr 1
  simp only [List.zipIdx_cons, List.zipIdx_nil, List.filter_cons, List.filter_nil]
  split <;> simp
theorem ofK_len (l : List ProdM) (n : Int) : (ofK l n).length ≤ l.length := by
  unfold ofK
  rw [List.length_map]
  exact Nat.le_trans (List.length_filter_le _ _) (by simp)
/-- Of's answer. -/
def OfP (g : GramM) (n : Int) (e : Ending) (w' : World) : Prop :=
  if checkB g then (if numB n g.sorts.length then ∃ a c, e = .returned (.tuple #[.slice a (ofK g.prods n).length c, .int .i64 0]) ∧ RowInt w' a (ofK g.prods n) else e = .returned (.tuple #[.slice none 0 0, .int .i64 4])) else e = .returned (.tuple #[.slice none 0 0, .int .i64 160])

set_option maxRecDepth 100000 in
set_option maxHeartbeats 2000000 in
theorem of_any (g : GramM) (n : Int) (w : World) (hg : GIn w g) (hf : FitG g) : Calls Try.prog 17 #[gramV g, .int .i64 n] w fun e w' => OfP g n e w' ∧ Below w.heap.size w w' := by
  have hB1 : Below w.heap.size w (w.alloc (.cells (gramC g) 27)) := (Below.refl _ _).alloc (Nat.le_refl _) _
  have HCk := Lib.hid (check_any g _ (hg.below hB1) hf)
  have HN := fun w' => Lib.hid (num_any n g.sorts.length w')
  have HG := Lib.hid hg
  have HB := Lib.hid hB1
  have HK := Lib.hid (Blk.new w 27 (gramC g))
  have hnp := hf.fit.prods
  obtain ⟨i0, hi, hz0, hz1, hz2⟩ := info_parts Try.info3
  have HP0 : Hid (∀ w', checkB g = false → OfP g n (.returned (.tuple #[.slice none 0 0, .int .i64 160])) w') := Lib.hid (fun w' h => by unfold OfP; rw [h]; rfl)
  have HP1 : Hid (∀ w', checkB g = true → numB n g.sorts.length = false → OfP g n (.returned (.tuple #[.slice none 0 0, .int .i64 4])) w') := Lib.hid (fun w' h h2 => by unfold OfP; rw [h, h2]; rfl)
  have HP2 : Hid (∀ w' a c, checkB g = true → numB n g.sorts.length = true → RowInt w' a (ofK g.prods n) → OfP g n (.returned (.tuple #[.slice a (ofK g.prods n).length c, .int .i64 0])) w') := Lib.hid (fun w' a c h h2 h3 => by unfold OfP; rw [h, h2]; exact ⟨a, c, rfl, h3⟩)
  clear hg hf hB1
  have hl0 := HK.out.lt
  unfold gramV at *
  obtain ⟨pa, hpa⟩ : ∃ p, p = g.pa := ⟨_, rfl⟩
  have HRow := Lib.hid HG.out.prods
  unfold gramC at *
  rw [← hpa] at HRow HCk HB HK hl0 ⊢
  clear hpa HG
  generalize numB n g.sorts.length = rn at *
  generalize OfP g n = O at *
  cases hq : checkB g with
  | false =>
    rw [hq] at HCk
    have HF := Lib.hid (fun w' => HP0.out w' hq)
    clear hq HP1 HP2 HP0 hnp
    have he : errI false = 160 := rfl
    rw [he] at HCk
    clear he
    go_enter Try.func17, Try.ntmps17
    go_wp2_with fail
    refine HCk.out.mono ?_
    rintro e w3 ⟨rfl, hB3⟩
    have HF3 := Lib.hid (show _ ∧ Below w.heap.size w w3 from ⟨HF.out w3, HB.out.trans (hB3.mono HB.out.size)⟩)
    clear hB3
    go_wp2
    go_ret2
    exact HF3.out
  | true =>
    rw [hq] at HCk
    have he : errI true = 0 := rfl
    rw [he] at HCk
    clear he
    cases rn with
    | false =>
      have HF := Lib.hid (fun w' => HP1.out w' hq rfl)
      clear hq HP1 HP2 HP0 hnp
      go_enter Try.func17, Try.ntmps17
      go_wp2_with fail
      refine HCk.out.mono ?_
      rintro e w3 ⟨rfl, hB3⟩
      have HF3 := Lib.hid (show _ ∧ Below w.heap.size w w3 from ⟨HF.out w3, HB.out.trans (hB3.mono HB.out.size)⟩)
      have HK3 := HK.out.below hB3 HK.out.lt
      have c0 := HK3.cell 0
      have l3 := HK3.lt
      simp only [List.getElem?_toArray, List.getElem?_cons_zero] at c0
      clear hB3 HK3
      go_wp2_with (go_at_call 42; (with_reducible refine (HN _).out.mono ?_); rintro e w5 ⟨rfl, rfl⟩)
      go_ret2
      exact HF3.out
    | true =>
      have HF := Lib.hid (fun w' a c h => HP2.out w' a c hq rfl h)
      clear hq HP1 HP2 HP0
      go_enter Try.func17, Try.ntmps17
      go_wp2_with fail
      refine HCk.out.mono ?_
      rintro e w3 ⟨rfl, hB3⟩
      have HB3 := Lib.hid (HB.out.trans (hB3.mono HB.out.size))
      have HK3 := Lib.hid (HK.out.below hB3 HK.out.lt)
      have c0 := HK3.out.cell 0
      have c1 := HK3.out.cell 1
      have l3 := HK3.out.lt
      simp only [List.getElem?_toArray, List.getElem?_cons_zero, List.getElem?_cons_succ] at c0 c1
      have hl3 : w.heap.size + 1 ≤ w3.heap.size := HK3.out.lt
      clear hB3
      go_wp2_with (go_at_call 42; (with_reducible refine (HN _).out.mono ?_); rintro e w5 ⟨rfl, rfl⟩)
      go_loopw [7, 24] (fun v i wr => ∃ (k : Nat), i = .int .i64 k ∧ k ≤ g.prods.length ∧ Hid (wr.ownsRow w3.heap.size 3 1 v (ofK (g.prods.take k) n).length (cellsL intC (ofK (g.prods.take k) n))) ∧ Hid (Below w3.heap.size w3 wr))
        (fun _ i _ => g.prods.length - (intOf i).toNat)
      case atStart => exact ⟨0, rfl, Nat.zero_le _, Lib.hid (World.ownsRow_nil _ _ _ _), Below.refl _ _⟩
      case round =>
        obtain ⟨k, rfl, hk, hO, hB⟩ := hrel
        have hszr := hB.out.size
        by_cases hlt : k < g.prods.length
        · obtain ⟨x, hx⟩ : ∃ x, g.prods[k]? = some x := ⟨_, List.getElem?_eq_getElem hlt⟩
          have HT := Lib.hid (take_snoc g.prods k x hx)
          obtain ⟨b, off, rfl, hbw, hc, ht⟩ := HRow.out k x hx
          clear ht
          have hc := hc.below (HB3.out.trans (hB.out.mono HB3.out.size)) hbw
          have hbr := Nat.lt_of_lt_of_le hbw (HB3.out.trans (hB.out.mono HB3.out.size)).size
          obtain ⟨p0, p1, p2, p3, p4, p5, p6⟩ := Prod_at hc
          have n1 : (k : Int) < (g.prods.length : Int) := by omega
          have hlen : (g.prods.take k).length = k := by rw [List.length_take]; omega
          have HS := Lib.hid (ofK_snoc (g.prods.take k) x n)
          have hol := ofK_len (g.prods.take k) n
          rw [hlen] at hol
          have HOf : Hid (ofK (g.prods.take (k + 1)) n = ofK (g.prods.take k) n ++ if x.left == n then [(k : Int)] else []) := Lib.hid (by rw [HT.out, HS.out, hlen])
          have HBx := Lib.hid (hB.out.alloc hszr (.cells (prodC x) 46))
          have HOx := Lib.hid (hO.out.alloc (.cells (prodC x) 46))
          clear hc hx HT HS hlen
          obtain ⟨left, ra, rc, right, cons, role, prefer, avoid, frm⟩ := x
          unfold prodC at *
          dsimp only at *
          obtain ⟨O2, hO2⟩ : ∃ O, O = ofK (g.prods.take (k + 1)) n := ⟨_, rfl⟩
          rw [← hO2] at HOf
          have HQ := Lib.hid hO2
          clear hO2
          generalize ofK (g.prods.take k) n = O1 at *
          by_cases h1 : left = n
          · subst h1
            have HO2 : Hid (O2 = O1 ++ [(k : Int)]) := Lib.hid (by rw [HOf.out]; simp)
            have HCN := cells_new (wr.alloc (.cells #[.int .i64 left, .slice ra right.length rc, .string cons, .int .i64 role, .bool prefer, .bool avoid, .int .i64 frm] 46)) #[.int .i64 k] 3
            rw [World.size_alloc] at HCN
            have HCN := Lib.hid HCN
            have hol2 : O1.length + 1 ≤ 1048577 := by omega
            clear HOf
            go_wp2_with (first
              | (at_builtin; refine wpList_append_own _ rfl (.tmp 33) (.tmp 35) 40 rfl w3.heap.size 3 i0 (.int .i64 0) 1 8 Try.underlying40 hi hz0 hz1 hz2 rfl (by decide) _ _ _ rfl (HOx.out.alloc _) ⟨wr.heap.size + 1, 0, none⟩ 1 1 [.int .i64 k] rfl rfl HCN.out (by simp [Value.oneCell']) (by unfold maxLen; omega) (by omega) (by simp; omega) ?_; intro v5 w5 hown5 hgrow5 _))
            have hf5 := own_fin (HOx.out.alloc _) (((Below.refl w3.heap.size wr).alloc hszr _).alloc (by simp; omega) _) hszr hgrow5
            have hO5 : Hid (w5.ownsRow w3.heap.size 3 1 v5 O2.length (cellsL intC O2)) := Lib.hid (by
              rw [HO2.out, cellsL_snoc, List.length_append]; exact hown5)
            have hB5 := Lib.hid (hB.out.trans hf5)
            clear hf5 hown5 hgrow5 hO hB HBx HOx
            go_wp2
            go_roundw
            case rel => exact ⟨k + 1, by go_num, by omega, by rw [← HQ.out]; exact hO5, hB5⟩
            case measure => simp [intOf]; omega
          · have e1 : (left == n) = false := by simpa using h1
            have HO2 : Hid ((wr.alloc (.cells #[.int .i64 left, .slice ra right.length rc, .string cons, .int .i64 role, .bool prefer, .bool avoid, .int .i64 frm] 46)).ownsRow w3.heap.size 3 1 u7 (ofK (g.prods.take (k + 1)) n).length (cellsL intC (ofK (g.prods.take (k + 1)) n))) := Lib.hid (by
              rw [← HQ.out, HOf.out, e1]
              simpa using HOx.out)
            clear HOf h1 HOx hO hB
            go_wp2
            go_roundw
            case rel => exact ⟨k + 1, by go_num, by omega, HO2, HBx⟩
            case measure => simp [intOf]; omega
        · obtain rfl : k = g.prods.length := by omega
          have hO2 := hO.out
          rw [List.take_length] at hO2
          obtain ⟨va, vc, rfl, hrow⟩ := own_row (cs := intC) (G := NoG) (fun _ => rfl) hO2 (fun _ _ => trivial)
          have HFin := Lib.hid (show _ ∧ Below w.heap.size w wr from ⟨HF.out wr va vc hrow, HB3.out.trans (hB.out.mono HB3.out.size)⟩)
          clear hO hO2 hrow hB
          generalize (ofK g.prods n).length = m at *
          go_wp2
          go_ret2
          exact HFin.out
end Go.Proofs.Ytiihdbchchnncaa
end
section
namespace Go.Proofs.Ytiihdbchchnncaa
open Go Go.RowKit

/-- How many of the first i stay. -/
def cnt (p : Nat → Bool) (i : Nat) : Nat := (List.range i).countP p
/-- The new number of the i-th. -/
def plI (p : Nat → Bool) (i : Nat) : Int := if p i then cnt p i else -1
theorem cnt_succ (p : Nat → Bool) (i : Nat) : cnt p (i + 1) = if p i then cnt p i + 1 else cnt p i := by
  unfold cnt
  rw [List.range_succ, List.countP_append, List.countP_singleton]
  split <;> simp_all
theorem cnt_le (p : Nat → Bool) (i : Nat) : cnt p i ≤ i := by
  unfold cnt
  exact Nat.le_trans List.countP_le_length (by simp)

/-- A block of places. -/
def PL (w : World) (B n : Nat) (p : Nat → Bool) : Prop := ∃ cs : Array Value, Blk w B 132 cs ∧ cs.size = 1000 ∧ ∀ i, i < n → cs[i]? = some (.int .i64 (plI p i))
theorem PL.below {w W : World} {B n m : Nat} {p : Nat → Bool} (h : PL w B n p) (hB : Below m w W) (hm : B < m) : PL W B n p := by
  obtain ⟨cs, h1, h2⟩ := h
  exact ⟨cs, h1.below hB hm, h2⟩
theorem PL.lt {w : World} {B n : Nat} {p : Nat → Bool} (h : PL w B n p) : B < w.heap.size := by
  obtain ⟨cs, h1, _⟩ := h
  exact h1.lt
theorem PL.kept {w W : World} {B n : Nat} {p : Nat → Bool} {row : Option Nat} (h : PL w B n p) (hg : w.grownBy W row) (hne : some B ≠ row) : PL W B n p := by
  obtain ⟨cs, h1, h2⟩ := h
  exact ⟨cs, h1.kept hg hne, h2⟩
theorem PL.cell {w : World} {B n : Nat} {p : Nat → Bool} (h : PL w B n p) {i : Nat} (hi : i < n) : w.cell? ⟨B, i, none⟩ = some (.int .i64 (plI p i)) := by
  obtain ⟨cs, h1, _, h3⟩ := h
  rw [h1.cell i, h3 i hi]
theorem set_self (cs : Array Value) (i : Nat) (v : Value) (h : i < cs.size) : (cs.setIfInBounds i v)[i]? = some v := by simp [h]
theorem zc132 : Try.zeroCells132.size = 1000 := by kernel_rfl

set_option maxRecDepth 100000 in
set_option maxHeartbeats 1000000 in
theorem places_any (n : Nat) (hn : n ≤ 1000) (p : Nat → Bool) (K : Nat) (lb : Array Value) (eg : ∀ args w, (callFunc K args).run Try.prog w = .ok (.enter K args) w) (w : World)
    (H : ∀ i, i < n → ∀ W, Below w.heap.size w W → Calls Try.prog K (#[.int .i64 (i : Nat)] ++ lb) W fun e w' => e = .returned (.bool (p i)) ∧ Below W.heap.size W w') :
    Calls Try.prog 71 #[.int .i64 n, .func (.func K) #[] lb] w fun e w' => e = .returned (.pointer (some ⟨w.heap.size, 0, none⟩)) ∧ PL w' w.heap.size n p ∧ Below w.heap.size w w' := by
  have HH := Lib.hid H
  clear H
  have HP0 : Hid (PL (w.alloc (.cells Try.zeroCells132 132)) w.heap.size 0 p) := Lib.hid ⟨_, Blk.new w 132 _, zc132, fun i hi => by omega⟩
  have HB0 : Hid (Below w.heap.size w (w.alloc (.cells Try.zeroCells132 132))) := Lib.hid ((Below.refl _ _).alloc (Nat.le_refl _) _)
  go_enter Try.func71, Try.ntmps71
  go_wp2
  go_loopw [6, 9] (fun q i wr => ∃ k : Nat, i = .int .i64 k ∧ k ≤ n ∧ q = .int .i64 (cnt p k : Nat) ∧ Hid (PL wr w.heap.size k p) ∧ Hid (Below w.heap.size w wr))
    (fun _ i _ => n - (intOf i).toNat)
  case atStart => exact ⟨0, rfl, Nat.zero_le _, rfl, HP0, HB0⟩
  case round =>
    clear HP0 HB0
    obtain ⟨k, rfl, hk, rfl, hP, hB⟩ := hrel
    have hl := hP.out.lt
    by_cases hlt : k < n
    · obtain ⟨cs, hb, hsz, hcs⟩ := hP.out
      have c0 := hb.cell k
      rw [Array.getElem?_eq_getElem (show k < cs.size by omega)] at c0
      have f0 := hb.frozen k
      generalize cs[k]'(by omega) = v0 at c0
      have hb1 := hb.set k (.int .i64 (-1))
      have hB1 : Below w.heap.size w (wr.setCell ⟨w.heap.size, k, none⟩ (.int .i64 (-1))) := hB.out.setCell (p := ⟨w.heap.size, k, none⟩) (Nat.le_refl _) _
      have HC := Lib.hid (HH.out k hlt _ hB1)
      have HB1 := Lib.hid hB1
      have HCs := Lib.hid hcs
      have Hb1 := Lib.hid hb1
      have n1 : (k : Int) < (n : Int) := by omega
      have n2 : (k : Int) < 1000 := by omega
      have hc1 := cnt_le p k
      have HS := Lib.hid (cnt_succ p k)
      have HPl : Hid (∀ r, p k = r → plI p k = if r then (cnt p k : Int) else -1) := Lib.hid (fun r h => by unfold plI; rw [h])
      clear hb hcs hb1 hB1 hP hB
      cases hr : p k with
      | true =>
        have HPl2 := Lib.hid (HPl.out true hr)
        rw [hr] at HC HS
        clear HPl hr
        go_wp2_with fail
        refine HC.out.mono ?_
        rintro e w3 ⟨rfl, hB3⟩
        have hb3 := Hb1.out.below hB3 Hb1.out.lt
        have c3 := hb3.cell k
        rw [set_self _ _ _ (by omega)] at c3
        have f3 := hb3.frozen k
        have l3 := hb3.lt
        have HB3 := Lib.hid (HB1.out.trans (hB3.mono HB1.out.size))
        have HP3 : Hid (PL (w3.setCell ⟨w.heap.size, k, none⟩ (.int .i64 (cnt p k : Nat))) w.heap.size (k + 1) p) := Lib.hid ⟨_, hb3.set k _, by simp [hsz], fun i hi => by
          by_cases e : i = k
          · subst e
            rw [HPl2.out, set_self _ _ _ (by rw [Array.size_setIfInBounds]; omega)]; rfl
          · rw [Array.getElem?_setIfInBounds_ne (fun h => e h.symm), Array.getElem?_setIfInBounds_ne (fun h => e h.symm)]
            exact HCs.out i (by omega)⟩
        have HB4 : Hid (Below w.heap.size w (w3.setCell ⟨w.heap.size, k, none⟩ (.int .i64 (cnt p k : Nat)))) := Lib.hid (HB3.out.setCell (p := ⟨w.heap.size, k, none⟩) (Nat.le_refl _) _)
        have hs2 : Hid (cnt p (k + 1) = cnt p k + 1) := Lib.hid (by rw [HS.out]; rfl)
        clear hB3 hb3 HPl2 HC HS c0 f0
        go_wp2
        go_roundw
        case rel => exact ⟨k + 1, by go_num, by omega, by rw [hs2.out]; go_num, HP3, HB4⟩
        case measure => simp [intOf]; omega
      | false =>
        have HPl2 := Lib.hid (HPl.out false hr)
        rw [hr] at HC HS
        clear HPl hr
        go_wp2_with fail
        refine HC.out.mono ?_
        rintro e w3 ⟨rfl, hB3⟩
        have hb3 := Hb1.out.below hB3 Hb1.out.lt
        have HB3 := Lib.hid (HB1.out.trans (hB3.mono HB1.out.size))
        have HP3 : Hid (PL w3 w.heap.size (k + 1) p) := Lib.hid ⟨_, hb3, by simp [hsz], fun i hi => by
          by_cases e : i = k
          · subst e
            rw [HPl2.out, set_self _ _ _ (by omega)]; rfl
          · rw [Array.getElem?_setIfInBounds_ne (fun h => e h.symm)]
            exact HCs.out i (by omega)⟩
        have hs2 : Hid (cnt p (k + 1) = cnt p k) := Lib.hid (by rw [HS.out]; rfl)
        clear hB3 hb3 HPl2 HC HS c0 f0
        go_wp2
        go_roundw
        case rel => exact ⟨k + 1, by go_num, by omega, by rw [hs2.out], HP3, HB3⟩
        case measure => simp [intOf]; omega
    · obtain rfl : k = n := by omega
      go_wp2
      go_ret
      exact ⟨rfl, hP.out, hB.out⟩

set_option maxRecDepth 100000 in
set_option maxHeartbeats 400000 in
/-- kept's first closure. -/
theorem f70_any (L : List Bool) (B : Nat) (a : Option Addr) (c : Nat) (j : Nat) (hj : j < L.length) (w : World) (hb : Blk w B 82 #[.slice a L.length c]) (hq : RowBool w a L) :
    Calls Try.prog 70 #[.int .i64 j, .pointer (some ⟨B, 0, none⟩)] w fun e w' => e = .returned (.bool (lv L j)) ∧ Below w.heap.size w w' := by
  have c0 := hb.cell 0
  simp only [List.getElem?_toArray, List.getElem?_cons_zero] at c0
  obtain ⟨b, off, rfl, hbw, hc, ht⟩ := hq j _ (List.getElem?_eq_getElem hj)
  clear ht
  have c1 := Bool_at hc
  have e : lv L (j : Int) = L[j] := by unfold lv; simp [List.getD_eq_getElem?_getD, hj]
  rw [← e, Nat.mul_one] at c1
  have hB := hb.lt
  have h0 : (j : Int) < (L.length : Int) := by omega
  clear hb hq hc e
  generalize lv L (j : Int) = r at *
  clear hj
  generalize L.length = n at *
  go_enter Try.func70, Try.ntmps70
  go_wp2
  go_ret
  exact ⟨rfl, Below.refl _ _⟩
end Go.Proofs.Ytiihdbchchnncaa
end
section
namespace Go.Proofs.Ytiihdbchchnncaa
open Go Go.RowKit

theorem row_cells {α : Type} {cs : α → Array Value} {size : Nat} {G : World → α → Prop} (hk : ∀ x, (cs x).size = size) (hsz : 0 < size) {w : World} {b off : Nat} {l : List α} (h : RowOf size cs G w (some ⟨b, off, none⟩) l) :
    ∀ (j : Nat) (u : Value), (cellsL cs l)[j]? = some u → w.cell? ((⟨b, off, none⟩ : Addr).add j) = some u := by
  intro j u hj
  have hjl : j < l.length * size := by
    have := (List.getElem?_eq_some_iff.1 hj).1
    rw [cellsL_length hk] at this
    exact this
  have hi : j / size < l.length := Nat.div_lt_of_lt_mul (by rw [Nat.mul_comm]; exact hjl)
  have hr : j % size < size := Nat.mod_lt _ hsz
  have hjr : j / size * size + j % size = j := by rw [Nat.mul_comm]; exact Nat.div_add_mod j size
  obtain ⟨x, hx⟩ : ∃ x, l[j / size]? = some x := ⟨_, List.getElem?_eq_getElem hi⟩
  have hc := cellsL_at hk l (j / size) x hx (j % size) hr
  rw [hjr, hj] at hc
  obtain ⟨b', off', e, _, hcells, _⟩ := h (j / size) x hx
  cases e
  have := hcells (j % size) u hc.symm
  rw [add_off, ← hjr, ← Nat.add_assoc]
  exact this

section
variable {P : Program} {w : World} {ops : Array Oper} {rest : List Oper} {o : Oper} {a : Act} {Q : Exit → Act → World → Prop}
/-- 'append(s, x...)', x a list as it lies in memory. -/
theorem wpList_append_row {α : Type} {cs : α → Array Value} {G : World → α → Prop} (hgd : o.guard = none) (s x : Operand) (t : TypeId)
    (ho : o.op = .call { callee := .builtin .append, args := #[s, x], argTypes := #[t, t] })
    (base : Nat) (e : TypeId) (i : TypeInfo) (z : Value) (size bytes : Nat) (ht : P.underlying t = some (.slice e)) (hi : P.info? e = some i) (hz : i.zero = some z)
    (hsize : i.size = size) (hby : i.bytes = bytes) (hzs : z.cells.size = size) (hsz : 0 < size)
    (v : Value) (n : Nat) (xs : List Value) (hs : a.eval s = v) (hown : w.ownsRow base e size v n xs)
    (ad : Option Addr) (c : Nat) (l : List α) (hx : a.eval x = .slice ad l.length c) (hrow : RowOf size cs G w ad l) (hk : ∀ x, (cs x).size = size) (h1 : ∀ x, ∀ u ∈ (cs x).toList, u.oneCell' = true) (hnil : ad = none → c = 0)
    (h63 : n + l.length ≤ maxLen) (hbytes : (n + l.length) * bytes ≤ 140737488355328) (hbase : base ≤ w.heap.size)
    (h : ∀ v' w', w'.ownsRow base e size v' (n + l.length) (xs ++ cellsL cs l) → w.grownBy w' v.ownBlock → wpList P ops Q rest (a.put o.dst v') w') : wpList P ops Q (o :: rest) a w := by
  cases ad with
  | none =>
    have hl : l = [] := by
      cases l with
      | nil => rfl
      | cons y r => obtain ⟨_, _, e, _⟩ := hrow 0 y rfl; cases e
    subst hl
    rw [hnil rfl] at hx
    refine wpList_append_own_none hgd s x t ho base e i size ht hi v n xs hs hown hx (h v w ?_ (World.grownBy.refl _ _))
    simpa [cellsL] using hown
  | some p =>
    refine wpList_append_own w hgd s x t ho base e i z size bytes ht hi hz hsize hby hzs hsz v n xs hs hown p l.length c (cellsL cs l) hx (cellsL_length hk l) ?_ ?_ h63 hbytes hbase (fun v' w' r1 r2 _ => h v' w' r1 r2)
    · intro j u hj
      cases hl : l with
      | nil => rw [hl] at hj; simp [cellsL] at hj
      | cons y r =>
        obtain ⟨b, off, e, _⟩ := hrow 0 y (by rw [hl]; rfl)
        cases e
        exact row_cells hk hsz hrow j u hj
    · intro u hu
      unfold cellsL at hu
      obtain ⟨y, _, hy⟩ := List.mem_flatMap.1 hu
      exact h1 y u hy
end

/-- A store into a row of the call's own. -/
theorem own_set {w : World} {base e size n cap g : Nat} {xs : List Value} (h : w.ownsRow base e size (.slice (some ⟨g, 0, none⟩) n cap) n xs) (i : Nat) (u : Value) :
    (w.setCell ⟨g, i, none⟩ u).ownsRow base e size (.slice (some ⟨g, 0, none⟩) n cap) n (xs.set i u) := by
  refine ⟨by rw [List.length_set]; exact h.1, .inr ?_⟩
  rcases h.2 with ⟨h', _⟩ | ⟨g', cap', cur, h', h1, h2, h3, h4, h5, h6⟩
  · simp at h'
  · simp only [Value.slice.injEq, Option.some.injEq, Addr.mk.injEq, and_true, true_and] at h'
    obtain ⟨rfl, rfl⟩ := h'
    refine ⟨g, cap, cur.setIfInBounds i u, rfl, h1, Blk.set (show Blk w g e cur from h2) i u, h3, h4, by rw [Array.size_setIfInBounds]; exact h5, ?_⟩
    rw [Array.toList_setIfInBounds, ← h6, List.take_set]
end Go.Proofs.Ytiihdbchchnncaa
end
section
namespace Go.Proofs.Ytiihdbchchnncaa
open Go Go.RowKit

/-- Does a production stay? -/
def stayP (S : List Bool) (x : ProdM) : Bool := lv S x.left && sortsB (lv S) x

set_option maxRecDepth 100000 in
set_option maxHeartbeats 2000000 in
/-- kept's second closure. -/
theorem f72_any (g : GramM) (hm : MayB g) (S : List Bool) (hS : S.length = g.sorts.length) (Bg Bk Bs : Nat) (a : Option Addr) (c : Nat) (i : Nat) (x : ProdM) (hx : g.prods[i]? = some x) (w : World) (hg : GIn w g)
    (hbg : Blk w Bg 27 (gramC g)) (hbk : Blk w Bk 70 #[.func (.func 70) #[] #[.pointer (some ⟨Bs, 0, none⟩)]]) (hbs : Blk w Bs 82 #[.slice a S.length c]) (hrow : RowBool w a S) :
    Calls Try.prog 72 #[.int .i64 (i : Nat), .pointer (some ⟨Bg, 0, none⟩), .pointer (some ⟨Bk, 0, none⟩)] w fun e w' => e = .returned (.bool (stayP S x)) ∧ Below w.heap.size w w' := by
  have hmem := List.mem_of_getElem? hx
  obtain ⟨j, hj, hjn⟩ := hm.left x hmem
  have hB1 : Below w.heap.size w (w.alloc (.cells (prodC x) 46)) := (Below.refl _ _).alloc (Nat.le_refl _) _
  have hcall : ∀ (t : Nat) W, t < g.sorts.length → Below w.heap.size w W → Calls Try.prog 70 #[.int .i64 t, .pointer (some ⟨Bs, 0, none⟩)] W fun e w' => e = .returned (.bool (lv S t)) ∧ Below W.heap.size W w' := fun t W ht hW =>
    f70_any S Bs a c t (by rw [hS]; exact ht) W (hbs.below hW hbs.lt) (hrow.belowN hW)
  have HC := Lib.hid (fun W hW => hcall j W hjn hW)
  have hpi : ProdIn w x := RowOf.mem hg.prods hmem
  have HE := Lib.hid (fun W (hW : Below w.heap.size w W) => eachSort_any x (lv S) 70 #[.pointer (some ⟨Bs, 0, none⟩)] (fun _ _ => by kernel_rfl) W (hpi.below hW) (by have := hm.right x hmem; omega) (fun s hs hk V hV => by
    obtain ⟨t, ht, htn⟩ := hm.sym x hmem s hs hk
    rw [ht]
    exact hcall t V htn (hW.trans (hV.mono hW.size))))
  have HB := Lib.hid hB1
  have HR : Hid (stayP S x = (lv S j && sortsB (lv S) x)) := Lib.hid (by unfold stayP; rw [hj])
  obtain ⟨_, g1, _, _, _⟩ := hbg.gram
  have HK := Lib.hid hbk
  have hk0 := hbk.cell 0
  simp only [List.getElem?_toArray, List.getElem?_cons_zero] at hk0
  have lg := hbg.lt
  have lk := hbk.lt
  obtain ⟨b, off, hpa, hbw, hc, ht⟩ := hg.prods i x hx
  rw [hpa] at g1
  clear ht
  obtain ⟨c0, c1, c2, c3, c4, c5, c6⟩ := Prod_at hc
  have hi : (i : Int) < (g.prods.length : Int) := by
    have := (List.getElem?_eq_some_iff.1 hx).1
    omega
  have Hbx := Lib.hid (Blk.new w 46 (prodC x))
  clear hbg hbk hbs hrow hg hm hx hpi hc hpa hcall hB1 hmem
  obtain ⟨left, ra, rc, right, cons, role, prefer, avoid, frm⟩ := x
  unfold prodV prodC at *
  dsimp only at *
  subst hj
  generalize stayP S _ = q at *
  generalize sortsB (lv S) _ = r2 at *
  generalize lv S (j : Int) = r1 at *
  cases r1 with
  | false =>
    have HR2 : Hid (q = false) := Lib.hid (by rw [HR.out]; rfl)
    clear HR HE
    go_enter Try.func72, Try.ntmps72
    go_wp2_with fail
    with_reducible refine (HC.out _ HB.out).mono ?_
    rintro e w3 ⟨rfl, hB3⟩
    have HB3 := Lib.hid (HB.out.trans (hB3.mono HB.out.size))
    clear hB3
    go_wp2
    go_ret
    exact ⟨by rw [HR2.out]; try rfl, HB3.out⟩
  | true =>
    have HR2 : Hid (q = r2) := Lib.hid (by rw [HR.out]; rfl)
    clear HR
    go_enter Try.func72, Try.ntmps72
    go_wp2_with fail
    with_reducible refine (HC.out _ HB.out).mono ?_
    rintro e w3 ⟨rfl, hB3⟩
    have HB3 := Lib.hid (HB.out.trans (hB3.mono HB.out.size))
    have hb3 := Hbx.out.below hB3 (by simp)
    have d0 := hb3.cell 0
    have d1 := hb3.cell 1
    have d2 := hb3.cell 2
    have d3 := hb3.cell 3
    have d4 := hb3.cell 4
    have d5 := hb3.cell 5
    have d6 := hb3.cell 6
    have k3 := (HK.out.below HB3.out HK.out.lt).cell 0
    have l3 := hb3.lt
    have l4 := (HK.out.below HB3.out HK.out.lt).lt
    simp only [List.getElem?_toArray, List.getElem?_cons_zero, List.getElem?_cons_succ] at d0 d1 d2 d3 d4 d5 d6 k3
    have HE3 := Lib.hid (HE.out w3 HB3.out)
    clear hB3 hb3 c0 c1 c2 c3 c4 c5 c6 hk0 g1
    go_wp2_with fail
    with_reducible refine HE3.out.mono ?_
    rintro e w4 ⟨rfl, hB4⟩
    have HB4 := Lib.hid (HB3.out.trans (hB4.mono HB3.out.size))
    clear hB4 d0 d1 d2 d3 d4 d5 d6 k3
    go_wp2
    go_ret
    exact ⟨by rw [HR2.out]; try rfl, HB4.out⟩
end Go.Proofs.Ytiihdbchchnncaa
end
section
namespace Go.Proofs.Ytiihdbchchnncaa
open Go Go.RowKit

/-- A symbol whose sort stands at another place. -/
def movS (p : Nat → Bool) (s : SymM) : SymM := if s.kind = 1 then ⟨s.kind, s.set, plI p s.sort.toNat⟩ else s
theorem Try.info68 : (Try.prog.info? 68).map (fun i => (i.zero, i.size, i.bytes)) = some (some (.agg #[.int .i64 0, .int .u64 0, .int .u64 0, .int .u64 0, .int .u64 0, .int .i64 0]), 6, 48) := by kernel_rfl
theorem sym_one (x : SymM) : ∀ u ∈ (symC x).toList, u.oneCell' = true := by simp [symC, Value.oneCell']

theorem cells_sort {l : List SymM} {k : Nat} {s : SymM} (h : l[k]? = some s) (v : Int) : (cellsL symC l).set (k * 6 + 5) (.int .i64 v) = cellsL symC (l.set k ⟨s.kind, s.set, v⟩) := by
  induction l generalizing k with
  | nil => simp at h
  | cons y r ih =>
    have e : ∀ (z : SymM) (q : List SymM), cellsL symC (z :: q) = (symC z).toList ++ cellsL symC q := fun z q => by simp [cellsL]
    cases k with
    | zero =>
      simp at h
      subst h
      rw [List.set_cons_zero, e, e]
      simp [symC]
    | succ k =>
      rw [List.set_cons_succ, e, e, List.set_append_right _ _ (by simp [symC]; omega), ← ih (by simpa using h)]
      congr 2
      simp [symC]; omega

theorem mov_step (p : Nat → Bool) (l : List SymM) (k : Nat) (s : SymM) (h : l[k]? = some s) : ((l.take k).map (movS p) ++ l.drop k).set k (movS p s) = (l.take (k + 1)).map (movS p) ++ l.drop (k + 1) := by
  have hk : k < l.length := (List.getElem?_eq_some_iff.1 h).1
  have hs : l[k] = s := (List.getElem?_eq_some_iff.1 h).2
  rw [List.set_append_right _ _ (by simp; omega), take_snoc l k s h, List.drop_eq_getElem_cons hk, hs]
  simp [Nat.min_eq_left (Nat.le_of_lt hk)]
theorem mov_at (p : Nat → Bool) (l : List SymM) (k : Nat) (s : SymM) (h : l[k]? = some s) : ((l.take k).map (movS p) ++ l.drop k)[k]? = some s := by
  have hk : k < l.length := (List.getElem?_eq_some_iff.1 h).1
  rw [List.getElem?_append_right (by simp; omega)]
  simp [Nat.min_eq_left (Nat.le_of_lt hk), h]

theorem own_slice {w : World} {base e size : Nat} {v : Value} {n : Nat} {xs : List Value} (h : w.ownsRow base e size v n xs) : ∃ a c, v = .slice a n c ∧ (∀ k, k < n → ∃ g, a = some ⟨g, 0, none⟩ ∧ base ≤ g) ∧ (a = none → c = 0) := by
  rcases h.2 with ⟨rfl, h0⟩ | ⟨g, cap, cur, rfl, hg, _⟩
  · exact ⟨none, 0, by rw [h0], fun k hk => by omega, fun _ => rfl⟩
  · exact ⟨_, cap, rfl, fun k hk => ⟨g, rfl, hg⟩, fun h => by cases h⟩

/-- A production moved: where its symbols lie is left open. -/
def movP (p : Nat → Bool) (ra : Option Addr) (rc : Nat) (x : ProdM) : ProdM := ⟨plI p x.left.toNat, ra, rc, x.right.map (movS p), x.cons, x.role, x.prefer, x.avoid, x.frm⟩

set_option maxRecDepth 100000 in
set_option maxHeartbeats 2000000 in
theorem moved_any (x : ProdM) (B n : Nat) (hn : n ≤ 1000) (p : Nat → Bool) (w : World) (hx : ProdIn w x) (hr : x.right.length ≤ 30) (hnil : x.ra = none → x.rc = 0) (hP : PL w B n p)
    (hl : ∃ k : Nat, x.left = k ∧ k < n) (hs : ∀ s, s ∈ x.right → s.kind = 1 → ∃ k : Nat, s.sort = k ∧ k < n) :
    Calls Try.prog 73 #[prodV x, .pointer (some ⟨B, 0, none⟩)] w fun e w' => ∃ ra rc, e = .returned (prodV (movP p ra rc x)) ∧ w'.ownsRow w.heap.size 68 6 (.slice ra x.right.length rc) x.right.length (cellsL symC (x.right.map (movS p))) ∧ Below w.heap.size w w' := by
  obtain ⟨i0, hi, hz0, hz1, hz2⟩ := info_parts Try.info68
  obtain ⟨j, hj, hjn⟩ := hl
  have HS := Lib.hid hs
  have HX := Lib.hid hx
  have HP := Lib.hid hP
  have hBw := hP.lt
  clear hs hx hP
  obtain ⟨left, xra, xrc, right, cons, role, prefer, avoid, frm⟩ := x
  unfold ProdIn at HX
  unfold prodV at *
  unfold movP
  unfold prodC at *
  dsimp only at *
  subst hj
  obtain ⟨W1, hW1⟩ : ∃ W1, W1 = (w.alloc (.cells #[.int .i64 (j : Int), .slice xra right.length xrc, .string cons, .int .i64 role, .bool prefer, .bool avoid, .int .i64 frm] 46)).alloc (.cells #[.int .i64 0, .slice none 0 0, .string ⟨#[]⟩, .int .i64 0, .bool false, .bool false, .int .i64 0] 46) := ⟨_, rfl⟩
  have hs1 : W1.heap.size = w.heap.size + 2 := by rw [hW1]; simp
  have hB1 : Below w.heap.size w W1 := by rw [hW1]; exact ((Below.refl _ _).alloc (Nat.le_refl _) _).alloc (by simp) _
  have hb1 : Blk W1 w.heap.size 46 #[.int .i64 (j : Int), .slice xra right.length xrc, .string cons, .int .i64 role, .bool prefer, .bool avoid, .int .i64 frm] := by rw [hW1]; exact (Blk.new w 46 _).alloc _
  have hb2 : Blk W1 (w.heap.size + 1) 46 #[.int .i64 0, .slice none 0 0, .string ⟨#[]⟩, .int .i64 0, .bool false, .bool false, .int .i64 0] := by
    have h := Blk.new (w.alloc (.cells #[.int .i64 (j : Int), .slice xra right.length xrc, .string cons, .int .i64 role, .bool prefer, .bool avoid, .int .i64 frm] 46)) 46 #[.int .i64 0, .slice none 0 0, .string ⟨#[]⟩, .int .i64 0, .bool false, .bool false, .int .i64 0]
    rw [World.size_alloc] at h
    rw [hW1]; exact h
  have HRow1 := Lib.hid (RowOf.belowN HX.out hB1)
  have HB1 := Lib.hid hB1
  have Hb1 := Lib.hid hb1
  have Hb2 := Lib.hid hb2
  have HW1 := Lib.hid hW1
  have Hs1 := Lib.hid hs1
  have HRowL : Hid (RowSym ((w.alloc (.cells #[.int .i64 (j : Int), .slice xra right.length xrc, .string cons, .int .i64 role, .bool prefer, .bool avoid, .int .i64 frm] 46)).alloc (.cells #[.int .i64 0, .slice none 0 0, .string ⟨#[]⟩, .int .i64 0, .bool false, .bool false, .int .i64 0] 46)) xra right) := Lib.hid (by rw [← hW1]; exact HRow1.out)
  clear hb1 hb2 hB1 hW1 hs1
  obtain ⟨m, hm⟩ : ∃ m, m = right.length := ⟨_, rfl⟩
  clear hm m
  go_enter Try.func73, Try.ntmps73
  go_wp2_with (at_builtin; refine wpList_append_row rfl (.const (.slice none 0 0)) (.tmp 9) 43 rfl (w.heap.size + 2) 68 i0 _ 6 48 Try.underlying43 hi hz0 hz1 hz2 rfl (by decide) (.slice none 0 0) 0 [] rfl (World.ownsRow_nil _ _ _ _) xra xrc right rfl HRowL.out (fun _ => rfl) sym_one hnil (by unfold maxLen; omega) (by omega) (by simp) ?_; intro v1 w1 hown1 hgrow1; simp only [Nat.zero_add, List.nil_append] at hown1; obtain ⟨ra, rc, rfl, hra, hrn⟩ := own_slice hown1)
  rw [← HW1.out] at hgrow1
  have hgB : Below W1.heap.size W1 w1 := ⟨hgrow1.os, hgrow1.tape, hgrow1.output, hgrow1.size, fun k hk => hgrow1.block k hk (fun e => by cases e)⟩
  have HRa := Lib.hid hra
  have hO0 : Hid (w1.ownsRow (w.heap.size + 2) 68 6 (.slice ra right.length rc) right.length (cellsL symC ((right.take 0).map (movS p) ++ right.drop 0))) := Lib.hid (by simpa using hown1)
  have hb10 := Lib.hid (Hb1.out.below hgB Hb1.out.lt)
  have hb20 := Lib.hid (Hb2.out.below hgB Hb2.out.lt)
  have hB0 := Lib.hid (HB1.out.trans (hgB.mono HB1.out.size))
  clear hown1 hgrow1 hgB hra
  go_loopw [13] (fun i wr => ∃ k : Nat, i = .int .i64 k ∧ k ≤ right.length ∧ Hid (wr.ownsRow (w.heap.size + 2) 68 6 (.slice ra right.length rc) right.length (cellsL symC ((right.take k).map (movS p) ++ right.drop k)))
      ∧ Hid (Blk wr w.heap.size 46 #[.int .i64 (j : Int), .slice xra right.length xrc, .string cons, .int .i64 role, .bool prefer, .bool avoid, .int .i64 frm])
      ∧ Hid (Blk wr (w.heap.size + 1) 46 #[.int .i64 0, .slice none 0 0, .string ⟨#[]⟩, .int .i64 0, .bool false, .bool false, .int .i64 0]) ∧ Hid (Below w.heap.size w wr))
    (fun i _ => right.length - (intOf i).toNat)
  case atStart => exact ⟨0, rfl, Nat.zero_le _, hO0, hb10, hb20, hB0⟩
  case round =>
    clear hO0 hb10 hb20 hB0
    obtain ⟨k, rfl, hk, hO, hb1, hb2, hB⟩ := hrel
    by_cases hlt : k < right.length
    · obtain ⟨s, hsk⟩ : ∃ s, right[k]? = some s := ⟨_, List.getElem?_eq_getElem hlt⟩
      have HSm := Lib.hid (HS.out s (List.mem_of_getElem? hsk))
      have HAt := Lib.hid (mov_at p right k s hsk)
      have HStep := Lib.hid (mov_step p right k s hsk)
      obtain ⟨g, rfl, hgb⟩ := HRa.out k hlt
      have hO' := hO.out
      have hrl : right.length = ((right.take k).map (movS p) ++ right.drop k).length := by simp; omega
      obtain ⟨L, hL⟩ : ∃ L, L = (right.take k).map (movS p) ++ right.drop k := ⟨_, rfl⟩
      rw [← hL] at hO' hrl HAt HStep
      have HC5 : Hid (wr.cell? ⟨g, k * 6 + 5, none⟩ = some (.int .i64 s.sort) ∧ CellsAt wr g (k * 6) (symC s)) := Lib.hid (by
        have hc : CellsAt wr g (k * 6) (symC s) := fun q u hu => by
          have hq : q < 6 := (Array.getElem?_eq_some_iff.1 hu).1
          rw [hO'.cellAt (k * 6 + q) (by omega), cellsL_at (cs := symC) (fun _ => rfl) L k s HAt.out q hq, hu]
        exact ⟨hc 5 _ rfl, hc⟩)
      obtain ⟨c0, c1, c2, c3, c4, c5⟩ := Sym_at HC5.out.2
      have f5 := hO'.frozenAt (k * 6 + 5)
      have lg : g < wr.heap.size := lt_of_cell c0
      have n1 : (k : Int) < (right.length : Int) := by omega
      have hszr := hB.out.size
      have HO := Lib.hid hO'
      clear hO hO' hL hrl hsk
      obtain ⟨sk, ss, so⟩ := s
      dsimp only at *
      have HBx : Hid (Below wr.heap.size wr (wr.alloc (.cells #[.int .i64 sk, .int .u64 (wdI ss 0), .int .u64 (wdI ss 1), .int .u64 (wdI ss 2), .int .u64 (wdI ss 3), .int .i64 so] 68))) := Lib.hid ((Below.refl _ _).alloc (Nat.le_refl _) _)
      have HO1 := Lib.hid (own_below HO.out HBx.out (Nat.le_refl _))
      have Hb11 := Lib.hid (hb1.out.below HBx.out hb1.out.lt)
      have Hb21 := Lib.hid (hb2.out.below HBx.out hb2.out.lt)
      have HB1' := Lib.hid (hB.out.trans (HBx.out.mono hszr))
      by_cases h1 : sk = 1
      · subst h1
        obtain ⟨t, rfl, ht⟩ := HSm.out rfl
        have p5 := (HP.out.below hB.out hBw).cell ht
        have lB : B < wr.heap.size := by omega
        have t1 : (t : Int) < 1000 := by omega
        have HO2 : Hid ((wr.setCell ⟨g, k * 6 + 5, none⟩ (.int .i64 (plI p t))).ownsRow (w.heap.size + 2) 68 6 (.slice (some ⟨g, 0, none⟩) right.length rc) right.length (cellsL symC ((right.take (k + 1)).map (movS p) ++ right.drop (k + 1)))) := Lib.hid (by
          have h := own_set HO.out (k * 6 + 5) (.int .i64 (plI p t))
          rw [cells_sort HAt.out] at h
          rw [← HStep.out]
          unfold movS
          rw [if_pos rfl, Int.toNat_natCast]
          exact h)
        have Hb12 := Lib.hid (hb1.out.other (a := ⟨g, k * 6 + 5, none⟩) (by show w.heap.size ≠ g; omega) (.int .i64 (plI p t)))
        have Hb22 := Lib.hid (hb2.out.other (a := ⟨g, k * 6 + 5, none⟩) (by show w.heap.size + 1 ≠ g; omega) (.int .i64 (plI p t)))
        have HB2 := Lib.hid (hB.out.setCell (p := ⟨g, k * 6 + 5, none⟩) (by show w.heap.size ≤ g; omega) (.int .i64 (plI p t)))
        clear HO HO1 Hb11 Hb21 HB1' HC5 hb1 hb2 hB HAt HStep HSm
        generalize plI p t = pv at *
        go_wp2
        go_region
        go_wp2
        go_roundw
        case rel => exact ⟨k + 1, by go_num, by omega, Lib.hid (HO2.out.alloc _), Lib.hid (Hb12.out.alloc _), Lib.hid (Hb22.out.alloc _), Lib.hid (HB2.out.alloc (by rw [World.size_setCell]; exact hszr) _).drew⟩
        case measure => simp [intOf]; omega
      · have e1 : (sk == 1) = false := by simpa using h1
        have HO2 : Hid ((wr.alloc (.cells #[.int .i64 sk, .int .u64 (wdI ss 0), .int .u64 (wdI ss 1), .int .u64 (wdI ss 2), .int .u64 (wdI ss 3), .int .i64 so] 68)).ownsRow (w.heap.size + 2) 68 6 (.slice (some ⟨g, 0, none⟩) right.length rc) right.length (cellsL symC ((right.take (k + 1)).map (movS p) ++ right.drop (k + 1)))) := Lib.hid (by
          rw [← HStep.out]
          unfold movS
          rw [if_neg h1]
          have : L.set k ⟨sk, ss, so⟩ = L := by
            apply List.ext_getElem?
            intro q
            rw [List.getElem?_set]
            split
            · next e => subst e; rw [HAt.out]; have := (List.getElem?_eq_some_iff.1 HAt.out).1; simp [this]
            · rfl
          rw [this]; exact HO1.out)
        clear HO HO1 HC5 hb1 hb2 hB HAt HStep HSm h1
        go_wp2
        go_roundw
        case rel => exact ⟨k + 1, by go_num, by omega, HO2, Hb11, Hb21, HB1'⟩
        case measure => simp [intOf]; omega
    · obtain rfl : k = right.length := by omega
      have hO2 := hO.out
      rw [List.take_length, List.drop_length, List.append_nil] at hO2
      have e0 := hb1.out.cell 0
      have e1 := hb1.out.cell 1
      have e2 := hb1.out.cell 2
      have e3 := hb1.out.cell 3
      have e4 := hb1.out.cell 4
      have e5 := hb1.out.cell 5
      have e6 := hb1.out.cell 6
      have f0 := hb1.out.frozen 0
      have f1 := hb1.out.frozen 1
      have b0 := hb2.out.cell 0
      have b1 := hb2.out.cell 1
      have b2 := hb2.out.cell 2
      have b3 := hb2.out.cell 3
      have b4 := hb2.out.cell 4
      have b5 := hb2.out.cell 5
      have b6 := hb2.out.cell 6
      have h0 := hb2.out.frozen 0
      have h1 := hb2.out.frozen 1
      have h2 := hb2.out.frozen 2
      have h3 := hb2.out.frozen 3
      have h4 := hb2.out.frozen 4
      have h5 := hb2.out.frozen 5
      have h6 := hb2.out.frozen 6
      simp only [List.getElem?_toArray, List.getElem?_cons_zero, List.getElem?_cons_succ] at e0 e1 e2 e3 e4 e5 e6 b0 b1 b2 b3 b4 b5 b6
      have lg0 := hb1.out.lt
      have lg1 := hb2.out.lt
      have p5 := (HP.out.below hB.out hBw).cell hjn
      have lB : B < wr.heap.size := by have := hB.out.size; omega
      have t1 : (j : Int) < 1000 := by omega
      have HO2 := Lib.hid hO2
      obtain ⟨pv, hpv⟩ : ∃ v, v = plI p j := ⟨_, rfl⟩
      rw [← hpv] at p5
      have HPV : Hid (plI p ((j : Int)).toNat = pv) := Lib.hid (by rw [Int.toNat_natCast]; exact hpv.symm)
      have HBf := Lib.hid hB.out
      have Hbb := Lib.hid hb2.out
      clear hO hO2 hb1 hb2 hpv
      go_wp2
      go_region
      go_wp2
      have hbF : Blk (((((((((wr.setCell ⟨w.heap.size, 0, none⟩ (.int .i64 pv)).setCell ⟨w.heap.size, 1, none⟩ (.slice ra right.length rc)).setCell ⟨w.heap.size + 1, 0, none⟩ (.int .i64 pv)).setCell ⟨w.heap.size + 1, 1, none⟩ (.slice ra right.length rc)).setCell ⟨w.heap.size + 1, 2, none⟩ (.string cons)).setCell ⟨w.heap.size + 1, 3, none⟩ (.int .i64 role)).setCell ⟨w.heap.size + 1, 4, none⟩ (.bool prefer)).setCell ⟨w.heap.size + 1, 5, none⟩ (.bool avoid)).setCell ⟨w.heap.size + 1, 6, none⟩ (.int .i64 frm)) (w.heap.size + 1) 46 #[.int .i64 pv, .slice ra right.length rc, .string cons, .int .i64 role, .bool prefer, .bool avoid, .int .i64 frm] := by
        have h := (((((((((Hbb.out.other (a := ⟨w.heap.size, 0, none⟩) (by show w.heap.size + 1 ≠ w.heap.size; omega) (.int .i64 pv)).other (a := ⟨w.heap.size, 1, none⟩) (by show w.heap.size + 1 ≠ w.heap.size; omega) (.slice ra right.length rc)).set 0 (.int .i64 pv)).set 1 (.slice ra right.length rc)).set 2 (.string cons)).set 3 (.int .i64 role)).set 4 (.bool prefer)).set 5 (.bool avoid)).set 6 (.int .i64 frm))
        simpa using h
      have hoF := own_mono (ownsRow_setCell_below (ownsRow_setCell_below (ownsRow_setCell_below (ownsRow_setCell_below (ownsRow_setCell_below (ownsRow_setCell_below (ownsRow_setCell_below (ownsRow_setCell_below (ownsRow_setCell_below HO2.out (a := ⟨w.heap.size, 0, none⟩) (by show w.heap.size < w.heap.size + 2; omega) (.int .i64 pv)) (a := ⟨w.heap.size, 1, none⟩) (by show w.heap.size < w.heap.size + 2; omega) (.slice ra right.length rc)) (a := ⟨w.heap.size + 1, 0, none⟩) (by show w.heap.size + 1 < w.heap.size + 2; omega) (.int .i64 pv)) (a := ⟨w.heap.size + 1, 1, none⟩) (by show w.heap.size + 1 < w.heap.size + 2; omega) (.slice ra right.length rc)) (a := ⟨w.heap.size + 1, 2, none⟩) (by show w.heap.size + 1 < w.heap.size + 2; omega) (.string cons)) (a := ⟨w.heap.size + 1, 3, none⟩) (by show w.heap.size + 1 < w.heap.size + 2; omega) (.int .i64 role)) (a := ⟨w.heap.size + 1, 4, none⟩) (by show w.heap.size + 1 < w.heap.size + 2; omega) (.bool prefer)) (a := ⟨w.heap.size + 1, 5, none⟩) (by show w.heap.size + 1 < w.heap.size + 2; omega) (.bool avoid)) (a := ⟨w.heap.size + 1, 6, none⟩) (by show w.heap.size + 1 < w.heap.size + 2; omega) (.int .i64 frm)) (show w.heap.size ≤ w.heap.size + 2 by omega)
      have hBF := (((((((((HBf.out.setCell (p := ⟨w.heap.size, 0, none⟩) (by show w.heap.size ≤ w.heap.size; omega) (.int .i64 pv)).setCell (p := ⟨w.heap.size, 1, none⟩) (by show w.heap.size ≤ w.heap.size; omega) (.slice ra right.length rc)).setCell (p := ⟨w.heap.size + 1, 0, none⟩) (by show w.heap.size ≤ w.heap.size + 1; omega) (.int .i64 pv)).setCell (p := ⟨w.heap.size + 1, 1, none⟩) (by show w.heap.size ≤ w.heap.size + 1; omega) (.slice ra right.length rc)).setCell (p := ⟨w.heap.size + 1, 2, none⟩) (by show w.heap.size ≤ w.heap.size + 1; omega) (.string cons)).setCell (p := ⟨w.heap.size + 1, 3, none⟩) (by show w.heap.size ≤ w.heap.size + 1; omega) (.int .i64 role)).setCell (p := ⟨w.heap.size + 1, 4, none⟩) (by show w.heap.size ≤ w.heap.size + 1; omega) (.bool prefer)).setCell (p := ⟨w.heap.size + 1, 5, none⟩) (by show w.heap.size ≤ w.heap.size + 1; omega) (.bool avoid)).setCell (p := ⟨w.heap.size + 1, 6, none⟩) (by show w.heap.size ≤ w.heap.size + 1; omega) (.int .i64 frm))
      generalize (((((((((wr.setCell ⟨w.heap.size, 0, none⟩ (.int .i64 pv)).setCell ⟨w.heap.size, 1, none⟩ (.slice ra right.length rc)).setCell ⟨w.heap.size + 1, 0, none⟩ (.int .i64 pv)).setCell ⟨w.heap.size + 1, 1, none⟩ (.slice ra right.length rc)).setCell ⟨w.heap.size + 1, 2, none⟩ (.string cons)).setCell ⟨w.heap.size + 1, 3, none⟩ (.int .i64 role)).setCell ⟨w.heap.size + 1, 4, none⟩ (.bool prefer)).setCell ⟨w.heap.size + 1, 5, none⟩ (.bool avoid)).setCell ⟨w.heap.size + 1, 6, none⟩ (.int .i64 frm)) = WF at *
      have q0 := hbF.cell 0
      have q1 := hbF.cell 1
      have q2 := hbF.cell 2
      have q3 := hbF.cell 3
      have q4 := hbF.cell 4
      have q5 := hbF.cell 5
      have q6 := hbF.cell 6
      simp only [List.getElem?_toArray, List.getElem?_cons_zero, List.getElem?_cons_succ] at q0 q1 q2 q3 q4 q5 q6
      refine bodyPost_ret (v := .agg #[.int .i64 pv, .slice ra right.length rc, .string cons, .int .i64 role, .bool prefer, .bool avoid, .int .i64 frm]) (by simp [results, Try.results73, go_sem, q0, q1, q2, q3, q4, q5, q6]) rfl ⟨ra, rc, ?_, hoF, hBF.drew⟩
      rw [HPV.out, List.length_map]
end Go.Proofs.Ytiihdbchchnncaa
end
section
namespace Go.Proofs.Ytiihdbchchnncaa
open Go Go.RowKit

theorem Try.info9 : (Try.prog.info? 9).map (fun i => (i.zero, i.size, i.bytes)) = some (some (.string ⟨#[]⟩), 1, 16) := by kernel_rfl
theorem Try.info46 : (Try.prog.info? 46).map (fun i => (i.zero, i.size, i.bytes)) = some (some (.agg #[.int .i64 0, .slice none 0 0, .string ⟨#[]⟩, .int .i64 0, .bool false, .bool false, .int .i64 0]), 7, 72) := by kernel_rfl
theorem Try.info78 : (Try.prog.info? 78).map (fun i => (i.zero, i.size, i.bytes)) = some (some (.agg #[.int .i64 0, .int .i64 0, .int .i64 0]), 3, 24) := by kernel_rfl
theorem Try.info80 : (Try.prog.info? 80).map (fun i => (i.zero, i.size, i.bytes)) = some (some (.agg #[.int .i64 0, .int .u64 0, .int .u64 0, .int .u64 0, .int .u64 0]), 5, 40) := by kernel_rfl

/-- Of a list those whose numbers stay. -/
def keepL {α : Type} (p : Nat → Bool) (l : List α) : List α := (l.zipIdx.filter fun q => p q.2).map (·.1)
theorem keepL_snoc {α : Type} (p : Nat → Bool) (l : List α) (x : α) : keepL p (l ++ [x]) = keepL p l ++ if p l.length then [x] else [] := by
  unfold keepL
  rw [List.zipIdx_append, List.filter_append, List.map_append]
  congr 1
  simp only [List.zipIdx_cons, List.zipIdx_nil, List.filter_cons, List.filter_nil, Nat.zero_add]
  split <;> simp
theorem keepL_len {α : Type} (p : Nat → Bool) (l : List α) : (keepL p l).length ≤ l.length := by
  unfold keepL
  rw [List.length_map]
  exact Nat.le_trans (List.length_filter_le _ _) (by simp)
/-- What is forbidden, moved, if it stays. -/
def movF (p : Nat → Bool) (f : ForM) : Option ForM := if plI p f.parent.toNat ≠ -1 ∧ plI p f.child.toNat ≠ -1 then some ⟨plI p f.parent.toNat, f.at_, plI p f.child.toNat⟩ else none
def movW (p : Nat → Bool) (f : FolM) : Option FolM := if plI p f.sort.toNat ≠ -1 then some ⟨plI p f.sort.toNat, f.not⟩ else none
/-- A production, wherever its symbols lie. -/
def bareP (x : ProdM) : ProdM := ⟨x.left, none, 0, x.right, x.cons, x.role, x.prefer, x.avoid, x.frm⟩

/-- Rows of unlike things lie apart. -/
theorem own_other {w W : World} {b b' e e' s s' : Nat} {v v' : Value} {n n' : Nat} {xs xs' : List Value} (h : w.ownsRow b e s v n xs) (h' : w.ownsRow b' e' s' v' n' xs') (hne : e ≠ e') (hg : w.grownBy W v'.ownBlock) : W.ownsRow b e s v n xs := by
  refine ⟨h.1, ?_⟩
  rcases h.2 with h1 | ⟨g, cap, cur, h1, h2, h3, h4⟩
  · exact .inl h1
  · refine .inr ⟨g, cap, cur, h1, h2, ?_, h4⟩
    rw [hg.block g (Array.getElem?_eq_some_iff.1 h3).1 (fun e1 => ?_)]
    · exact h3
    · rcases h'.2 with ⟨rfl, _⟩ | ⟨g', cap', cur', rfl, _, h3', _⟩
      · cases e1
      · have : g = g' := by simpa [Value.ownBlock] using e1
        subst this
        rw [h3] at h3'
        cases h3'
        exact hne rfl
theorem low_ne {w : World} {base e size : Nat} {v : Value} {n : Nat} {xs : List Value} (h : w.ownsRow base e size v n xs) {B : Nat} (hB : B < base) : some B ≠ v.ownBlock := by
  rcases h.2 with ⟨rfl, _⟩ | ⟨g, cap, cur, rfl, hg, _⟩
  · intro e; cases e
  · intro e
    have : B = g := by simpa [Value.ownBlock] using e
    omega
theorem own_put {w : World} {base e size : Nat} {v : Value} {n : Nat} {xs : List Value} (h : w.ownsRow base e size v n xs) {B i : Nat} (hB : B < base) (u : Value) : (w.setCell ⟨B, i, none⟩ u).ownsRow base e size v n xs := ownsRow_setCell_below h (a := ⟨B, i, none⟩) hB u

/-- What kept's blocks hold: N0: from where on it makes its rows. -/
structure KS (g : GramM) (pS pP : Nat → Bool) (w : World) (P1 P2 Bo N0 : Nat) (st : Int) (v0 v1 v3 v4 : Value) (ss : List ByteArray) (ps : List ProdM) (fs : List ForM) (ws : List FolM) (wr : World) : Prop where
  n0 : w.heap.size + 2 < N0 ∧ P1 < N0 ∧ P2 < N0 ∧ Bo < N0 ∧ w.heap.size + 2 < Bo ∧ P1 ≠ Bo ∧ P2 ≠ Bo
  bg : Blk wr w.heap.size 27 (gramC g)
  bo : Blk wr Bo 27 #[v0, v1, .int .i64 st, v3, v4]
  br : Blk wr (w.heap.size + 2) 27 #[.slice none 0 0, .slice none 0 0, .int .i64 0, .slice none 0 0, .slice none 0 0]
  p1 : PL wr P1 g.sorts.length pS
  p2 : PL wr P2 g.prods.length pP
  b : Below w.heap.size w wr
  r0 : wr.ownsRow N0 9 1 v0 ss.length (cellsL strC ss)
  r1 : wr.ownsRow N0 46 7 v1 ps.length (cellsL prodC ps)
  r3 : wr.ownsRow N0 78 3 v3 fs.length (cellsL forC fs)
  r4 : wr.ownsRow N0 80 5 v4 ws.length (cellsL folC ws)
  rs : ∀ x, x ∈ ps → wr.ownsRow N0 68 6 (.slice x.ra x.right.length x.rc) x.right.length (cellsL symC x.right)
  lt : N0 ≤ wr.heap.size

section
variable {g : GramM} {pS pP : Nat → Bool} {w : World} {P1 P2 Bo N0 : Nat} {st : Int} {v0 v1 v3 v4 : Value} {ss : List ByteArray} {ps : List ProdM} {fs : List ForM} {ws : List FolM} {wr W : World}
theorem KS.below (h : KS g pS pP w P1 P2 Bo N0 st v0 v1 v3 v4 ss ps fs ws wr) (hB : Below wr.heap.size wr W) : KS g pS pP w P1 P2 Bo N0 st v0 v1 v3 v4 ss ps fs ws W :=
  ⟨h.n0, h.bg.below hB h.bg.lt, h.bo.below hB h.bo.lt, h.br.below hB h.br.lt, h.p1.below hB h.p1.lt, h.p2.below hB h.p2.lt, h.b.trans (hB.mono h.b.size), own_below h.r0 hB (Nat.le_refl _), own_below h.r1 hB (Nat.le_refl _), own_below h.r3 hB (Nat.le_refl _), own_below h.r4 hB (Nat.le_refl _),
    fun x hx => own_below (h.rs x hx) hB (Nat.le_refl _), Nat.le_trans h.lt hB.size⟩
theorem PL.put {w : World} {B n : Nat} {p : Nat → Bool} (h : PL w B n p) {Q i : Nat} (hne : B ≠ Q) (u : Value) : PL (w.setCell ⟨Q, i, none⟩ u) B n p := by
  obtain ⟨cs, h1, h2⟩ := h
  exact ⟨cs, h1.other (a := ⟨Q, i, none⟩) hne u, h2⟩
/-- What an append to one of the rows leaves of the rest. -/
theorem KS.low {v' : Value} {e size n : Nat} {xs : List Value} (h : KS g pS pP w P1 P2 Bo N0 st v0 v1 v3 v4 ss ps fs ws wr) (hv : wr.ownsRow N0 e size v' n xs) (hg : wr.grownBy W v'.ownBlock) (i : Nat) (u : Value) :
    Blk (W.setCell ⟨Bo, i, none⟩ u) w.heap.size 27 (gramC g) ∧ Blk (W.setCell ⟨Bo, i, none⟩ u) Bo 27 ((#[v0, v1, .int .i64 st, v3, v4] : Array Value).setIfInBounds i u) ∧
    Blk (W.setCell ⟨Bo, i, none⟩ u) (w.heap.size + 2) 27 #[.slice none 0 0, .slice none 0 0, .int .i64 0, .slice none 0 0, .slice none 0 0] ∧ PL (W.setCell ⟨Bo, i, none⟩ u) P1 g.sorts.length pS ∧ PL (W.setCell ⟨Bo, i, none⟩ u) P2 g.prods.length pP ∧
    Below w.heap.size w (W.setCell ⟨Bo, i, none⟩ u) ∧ N0 ≤ (W.setCell ⟨Bo, i, none⟩ u).heap.size := by
  obtain ⟨a1, a2, a3, a4, a5, a6, a7⟩ := h.n0
  refine ⟨(h.bg.kept hg (low_ne hv (by omega))).other (by show w.heap.size ≠ Bo; omega) _, (h.bo.kept hg (low_ne hv a4)).set i u, (h.br.kept hg (low_ne hv (by omega))).other (by show w.heap.size + 2 ≠ Bo; omega) _,
    (h.p1.kept hg (low_ne hv a2)).put a6 _, (h.p2.kept hg (low_ne hv a3)).put a7 _, ?_, ?_⟩
  · refine (h.b.grown hg h.b.size fun j ej => ?_).setCell (p := ⟨Bo, i, none⟩) (by show w.heap.size ≤ Bo; omega) _
    rcases hv.2 with ⟨rfl, _⟩ | ⟨q, cap, cur, rfl, hq, _⟩
    · cases ej
    · have : q = j := by simpa [Value.ownBlock] using ej
      omega
  · rw [World.size_setCell]; exact Nat.le_trans h.lt hg.size
theorem KS.push0 (h : KS g pS pP w P1 P2 Bo N0 st v0 v1 v3 v4 ss ps fs ws wr) (s : ByteArray) (v : Value) (hg : wr.grownBy W v0.ownBlock) (hn : W.ownsRow N0 9 1 v (ss.length + 1) (cellsL strC ss ++ [.string s])) :
    KS g pS pP w P1 P2 Bo N0 st v v1 v3 v4 (ss ++ [s]) ps fs ws (W.setCell ⟨Bo, 0, none⟩ v) := by
  obtain ⟨b1, b2, b3, b4, b5, b6, b7⟩ := h.low h.r0 hg 0 v
  have hb : Bo < N0 := h.n0.2.2.2.1
  refine ⟨h.n0, b1, by simpa using b2, b3, b4, b5, b6, own_put (by rw [cellsL_snoc, List.length_append]; exact hn) hb _, own_put (own_other h.r1 h.r0 (by decide) hg) hb _, own_put (own_other h.r3 h.r0 (by decide) hg) hb _, own_put (own_other h.r4 h.r0 (by decide) hg) hb _,
    fun x hx => own_put (own_other (h.rs x hx) h.r0 (by decide) hg) hb _, b7⟩
theorem KS.push1 (h : KS g pS pP w P1 P2 Bo N0 st v0 v1 v3 v4 ss ps fs ws wr) (s : ProdM) (v : Value) (hs : wr.ownsRow N0 68 6 (.slice s.ra s.right.length s.rc) s.right.length (cellsL symC s.right)) (hg : wr.grownBy W v1.ownBlock)
    (hn : W.ownsRow N0 46 7 v (ps.length + 1) (cellsL prodC ps ++ (prodC s).toList)) :
    KS g pS pP w P1 P2 Bo N0 st v0 v v3 v4 ss (ps ++ [s]) fs ws (W.setCell ⟨Bo, 1, none⟩ v) := by
  obtain ⟨b1, b2, b3, b4, b5, b6, b7⟩ := h.low h.r1 hg 1 v
  have hb : Bo < N0 := h.n0.2.2.2.1
  refine ⟨h.n0, b1, by simpa using b2, b3, b4, b5, b6, own_put (own_other h.r0 h.r1 (by decide) hg) hb _, own_put (by rw [cellsL_snoc, List.length_append]; exact hn) hb _, own_put (own_other h.r3 h.r1 (by decide) hg) hb _, own_put (own_other h.r4 h.r1 (by decide) hg) hb _,
    fun x hx => ?_, b7⟩
  rcases List.mem_append.1 hx with hx | hx
  · exact own_put (own_other (h.rs x hx) h.r1 (by decide) hg) hb _
  · simp at hx; subst hx; exact own_put (own_other hs h.r1 (by decide) hg) hb _
theorem KS.push3 (h : KS g pS pP w P1 P2 Bo N0 st v0 v1 v3 v4 ss ps fs ws wr) (s : ForM) (v : Value) (hg : wr.grownBy W v3.ownBlock) (hn : W.ownsRow N0 78 3 v (fs.length + 1) (cellsL forC fs ++ (forC s).toList)) :
    KS g pS pP w P1 P2 Bo N0 st v0 v1 v v4 ss ps (fs ++ [s]) ws (W.setCell ⟨Bo, 3, none⟩ v) := by
  obtain ⟨b1, b2, b3, b4, b5, b6, b7⟩ := h.low h.r3 hg 3 v
  have hb : Bo < N0 := h.n0.2.2.2.1
  exact ⟨h.n0, b1, by simpa using b2, b3, b4, b5, b6, own_put (own_other h.r0 h.r3 (by decide) hg) hb _, own_put (own_other h.r1 h.r3 (by decide) hg) hb _, own_put (by rw [cellsL_snoc, List.length_append]; exact hn) hb _, own_put (own_other h.r4 h.r3 (by decide) hg) hb _,
    fun x hx => own_put (own_other (h.rs x hx) h.r3 (by decide) hg) hb _, b7⟩
theorem KS.push4 (h : KS g pS pP w P1 P2 Bo N0 st v0 v1 v3 v4 ss ps fs ws wr) (s : FolM) (v : Value) (hg : wr.grownBy W v4.ownBlock) (hn : W.ownsRow N0 80 5 v (ws.length + 1) (cellsL folC ws ++ (folC s).toList)) :
    KS g pS pP w P1 P2 Bo N0 st v0 v1 v3 v ss ps fs (ws ++ [s]) (W.setCell ⟨Bo, 4, none⟩ v) := by
  obtain ⟨b1, b2, b3, b4, b5, b6, b7⟩ := h.low h.r4 hg 4 v
  have hb : Bo < N0 := h.n0.2.2.2.1
  exact ⟨h.n0, b1, by simpa using b2, b3, b4, b5, b6, own_put (own_other h.r0 h.r4 (by decide) hg) hb _, own_put (own_other h.r1 h.r4 (by decide) hg) hb _, own_put (own_other h.r3 h.r4 (by decide) hg) hb _, own_put (by rw [cellsL_snoc, List.length_append]; exact hn) hb _,
    fun x hx => own_put (own_other (h.rs x hx) h.r4 (by decide) hg) hb _, b7⟩
end
end Go.Proofs.Ytiihdbchchnncaa
end
section
namespace Go.Proofs.Ytiihdbchchnncaa
open Go Go.RowKit

/-- Which sorts, which productions stay. -/
def sP (S : List Bool) (i : Nat) : Bool := lv S i
def pP (g : GramM) (S : List Bool) (i : Nat) : Bool := match g.prods[i]? with | some x => stayP S x | none => false

/-- What is left, but for where it lies. -/
structure KeptM (g : GramM) (S : List Bool) (h : GramM) : Prop where
  sorts : h.sorts = keepL (sP S) g.sorts
  start : h.start = plI (sP S) g.start.toNat
  prods : h.prods.map bareP = (keepL (pP g S) g.prods).map fun x => bareP (movP (sP S) none 0 x)
  forbid : h.forbid = g.forbid.filterMap (movF (pP g S))
  follow : h.follow = g.follow.filterMap (movW (sP S))
/-- What is nil has no capacity. -/
structure NilOK (g : GramM) : Prop where
  s : g.sa = none → g.sc = 0
  p : g.pa = none → g.pc = 0
  f : g.fa = none → g.fc = 0
  w : g.wa = none → g.wc = 0
  r : ∀ x, x ∈ g.prods → x.ra = none → x.rc = 0

/-- A grammar whose lists lie from a block on: what is below may be written. -/
def GFar (N : Nat) (w : World) (h : GramM) : Prop := ∀ W : World, (∀ k, N ≤ k → k < w.heap.size → W.heap[k]? = w.heap[k]?) → GIn W h
theorem own_far {w W : World} {b e s n : Nat} {v : Value} {xs : List Value} (h : w.ownsRow b e s v n xs) {N : Nat} (hN : N ≤ b) (hW : ∀ k, N ≤ k → k < w.heap.size → W.heap[k]? = w.heap[k]?) : W.ownsRow b e s v n xs := by
  refine ⟨h.1, ?_⟩
  rcases h.2 with h1 | ⟨g, cap, cur, h1, h2, h3, h4⟩
  · exact .inl h1
  · exact .inr ⟨g, cap, cur, h1, h2, (hW g (Nat.le_trans hN h2) (Array.getElem?_eq_some_iff.1 h3).1).trans h3, h4⟩
theorem keep_mid {α : Type} (p : Nat → Bool) (l : List α) (k : Nat) (x : α) (h : l[k]? = some x) : keepL p (l.take (k + 1)) = keepL p (l.take k) ++ if p k then [x] else [] := by
  have hk : k < l.length := (List.getElem?_eq_some_iff.1 h).1
  rw [take_snoc l k x h, keepL_snoc, List.length_take, Nat.min_eq_left (Nat.le_of_lt hk)]
theorem plI_neq (p : Nat → Bool) (k : Nat) (h : p k = true) : ∃ c : Nat, plI p k = c := ⟨cnt p k, by unfold plI; rw [h]; rfl⟩
theorem plI_gone (p : Nat → Bool) (k : Nat) (h : p k = false) : plI p k = -1 := by unfold plI; rw [h]; rfl

theorem high_ne {w : World} {base e size : Nat} {v : Value} {n : Nat} {xs : List Value} (h : w.ownsRow base e size v n xs) {B : Nat} (hB : w.heap.size ≤ B) : some B ≠ v.ownBlock := by
  rcases h.2 with ⟨rfl, _⟩ | ⟨g, cap, cur, rfl, _, hg, _⟩
  · intro e; cases e
  · intro e
    have h1 : B = g := by simpa [Value.ownBlock] using e
    have h2 := (Array.getElem?_eq_some_iff.1 hg).1
    omega
theorem cells7 {W : World} {B : Nat} {u0 u1 u2 u3 u4 u5 u6 : Value} (h : Blk W B 46 #[u0, u1, u2, u3, u4, u5, u6]) : W.cell? ⟨B, 0, none⟩ = some u0 ∧ W.cell? ⟨B, 1, none⟩ = some u1 ∧ W.cell? ⟨B, 2, none⟩ = some u2 ∧ W.cell? ⟨B, 3, none⟩ = some u3 ∧ W.cell? ⟨B, 4, none⟩ = some u4 ∧ W.cell? ⟨B, 5, none⟩ = some u5 ∧ W.cell? ⟨B, 6, none⟩ = some u6 :=
  ⟨h.cell 0, h.cell 1, h.cell 2, h.cell 3, h.cell 4, h.cell 5, h.cell 6⟩
theorem fm_snoc {α β : Type} (f : α → Option β) (l : List α) (x : α) : (l ++ [x]).filterMap f = l.filterMap f ++ (f x).toList := by
  rw [List.filterMap_append]
  congr 1
theorem own_rowS {α : Type} {cs : α → Array Value} {k : Nat} {G : World → α → Prop} (hk : ∀ x, (cs x).size = k) {w : World} {n₀ e : Nat} {a : Option Addr} {c : Nat} {l : List α} (h : w.ownsRow n₀ e k (.slice a l.length c) l.length (cellsL cs l))
    (hG : ∀ x, x ∈ l → G w x) : RowOf k cs G w a l ∧ (a = none → c = 0) := by
  obtain ⟨a', c', e1, h1⟩ := own_row hk h hG
  obtain ⟨a2, c2, e2, _, h2⟩ := own_slice h
  cases e1
  cases e2
  exact ⟨h1, h2⟩
theorem KS.fin {g : GramM} {pS pP : Nat → Bool} {w : World} {P1 P2 Bo N0 : Nat} {st : Int} {sa pa fa wa : Option Addr} {sc pc fc wc : Nat} {ss : List ByteArray} {ps : List ProdM} {fs : List ForM} {ws : List FolM} {wr W : World}
    (h : KS g pS pP w P1 P2 Bo N0 st (.slice sa ss.length sc) (.slice pa ps.length pc) (.slice fa fs.length fc) (.slice wa ws.length wc) ss ps fs ws wr)
    (hW : W = ((((wr.setCell ⟨w.heap.size + 1 + 1, 0, none⟩ (.slice sa ss.length sc)).setCell ⟨w.heap.size + 1 + 1, 1, none⟩ (.slice pa ps.length pc)).setCell ⟨w.heap.size + 1 + 1, 2, none⟩ (.int .i64 st)).setCell ⟨w.heap.size + 1 + 1, 3, none⟩ (.slice fa fs.length fc)).setCell ⟨w.heap.size + 1 + 1, 4, none⟩ (.slice wa ws.length wc)) :
    Blk W (w.heap.size + 1 + 1) 27 #[.slice sa ss.length sc, .slice pa ps.length pc, .int .i64 st, .slice fa fs.length fc, .slice wa ws.length wc] ∧ Below w.heap.size w W ∧ GFar w.heap.size W ⟨sa, sc, ss, pa, pc, ps, st, fa, fc, fs, wa, wc, ws⟩ ∧ NilOK ⟨sa, sc, ss, pa, pc, ps, st, fa, fc, fs, wa, wc, ws⟩ := by
  have hN : w.heap.size + 1 + 1 < N0 := by have := h.n0.1; omega
  have put : ∀ {e size n : Nat} {v : Value} {xs : List Value}, wr.ownsRow N0 e size v n xs → W.ownsRow N0 e size v n xs := fun h => by
    rw [hW]
    exact own_put (own_put (own_put (own_put (own_put h hN _) hN _) hN _) hN _) hN _
  have hb := ((((h.br.set 0 (.slice sa ss.length sc)).set 1 (.slice pa ps.length pc)).set 2 (.int .i64 st)).set 3 (.slice fa fs.length fc)).set 4 (.slice wa ws.length wc)
  have hlow : w.heap.size ≤ N0 := by omega
  have hnil : ∀ {α : Type} {cs : α → Array Value} {k e : Nat} {a : Option Addr} {c : Nat} {l : List α} (_ : ∀ x, (cs x).size = k), W.ownsRow N0 e k (.slice a l.length c) l.length (cellsL cs l) → a = none → c = 0 := fun hk h => (own_rowS (G := NoG) hk h (fun _ _ => trivial)).2
  refine ⟨?_, ?_, fun V hV => ?_, ⟨hnil (cs := strC) (fun _ => rfl) (put h.r0), hnil (cs := prodC) (fun _ => rfl) (put h.r1), hnil (cs := forC) (fun _ => rfl) (put h.r3), hnil (cs := folC) (fun _ => rfl) (put h.r4), fun x hx => hnil (cs := symC) (fun _ => rfl) (put (h.rs x hx))⟩⟩
  rotate_left 2
  · have hrs : ∀ x, x ∈ ps → RowSym V x.ra x.right := fun x hx => (own_rowS (cs := symC) (fun _ => rfl) (own_far (put (h.rs x hx)) hlow hV) (fun _ _ => trivial)).1
    exact ⟨(own_rowS (cs := strC) (G := NoG) (fun _ => rfl) (own_far (put h.r0) hlow hV) (fun _ _ => trivial)).1, (own_rowS (cs := prodC) (G := ProdIn) (fun _ => rfl) (own_far (put h.r1) hlow hV) hrs).1,
      (own_rowS (cs := forC) (G := NoG) (fun _ => rfl) (own_far (put h.r3) hlow hV) (fun _ _ => trivial)).1, (own_rowS (cs := folC) (G := NoG) (fun _ => rfl) (own_far (put h.r4) hlow hV) (fun _ _ => trivial)).1⟩
  · rw [hW]; simpa using hb
  · rw [hW]
    have hle : w.heap.size ≤ w.heap.size + 1 + 1 := by omega
    exact ((((h.b.setCell (p := ⟨w.heap.size + 1 + 1, 0, none⟩) hle _).setCell (p := ⟨w.heap.size + 1 + 1, 1, none⟩) hle _).setCell (p := ⟨w.heap.size + 1 + 1, 2, none⟩) hle _).setCell (p := ⟨w.heap.size + 1 + 1, 3, none⟩) hle _).setCell (p := ⟨w.heap.size + 1 + 1, 4, none⟩) hle _
theorem KS.boxo {g : GramM} {pS pP : Nat → Bool} {w : World} {P1 P2 Bo N0 : Nat} {st : Int} {v0 v1 v3 v4 : Value} {ss : List ByteArray} {ps : List ProdM} {fs : List ForM} {ws : List FolM} {wr W : World}
    (h : KS g pS pP w P1 P2 Bo N0 st v0 v1 v3 v4 ss ps fs ws wr) {v' : Value} {e size n : Nat} {xs : List Value} (hv : wr.ownsRow N0 e size v' n xs) (hg : wr.grownBy W v'.ownBlock) : Blk W Bo 27 #[v0, v1, .int .i64 st, v3, v4] :=
  h.bo.kept hg (low_ne hv h.n0.2.2.2.1)
theorem plI_neg (p : Nat → Bool) (k : Nat) : (plI p k == -1) = !(p k) := by
  unfold plI
  split
  · next h => rw [h]; simp
  · next h => simp [h]

set_option maxRecDepth 100000 in
set_option maxHeartbeats 4000000 in
theorem kept_any (g : GramM) (hm : MayB g) (hf : Fit g) (hnil : NilOK g) (S : List Bool) (hS : S.length = g.sorts.length) (w : World) (hg : GIn w g) (aS : Option Addr) (cS : Nat) (hrow : RowBool w aS S) :
    Calls Try.prog 53 #[gramV g, .slice aS S.length cS] w fun e w' => ∃ h, e = .returned (gramV h) ∧ KeptM g S h ∧ GFar w.heap.size w' h ∧ NilOK h ∧ Below w.heap.size w w' := by
  obtain ⟨i9, ti9, tz9, ts9, tb9⟩ := info_parts Try.info9
  obtain ⟨i46, ti46, tz46, ts46, tb46⟩ := info_parts Try.info46
  obtain ⟨i78, ti78, tz78, ts78, tb78⟩ := info_parts Try.info78
  obtain ⟨i80, ti80, tz80, ts80, tb80⟩ := info_parts Try.info80
  have hmf : ∀ (fn : Fn) (first cap : Array Value) (w : World), (Instr.makeFunc fn first cap).run Try.prog w = .ok (.func fn first cap) w := fun _ _ _ _ => rfl
  obtain ⟨W1, hW1⟩ : ∃ W1, W1 = (((w.alloc (.cells (gramC g) 27)).alloc (.cells #[.slice aS S.length cS] 82)).alloc (.cells #[.slice none 0 0, .slice none 0 0, .int .i64 0, .slice none 0 0, .slice none 0 0] 27)).alloc (.cells #[.func (.func 70) #[] #[.pointer (some ⟨w.heap.size + 1, 0, none⟩)]] 70) := ⟨_, rfl⟩
  have hs1 : W1.heap.size = w.heap.size + 4 := by rw [hW1]; simp
  have b1 := Blk.new w 27 (gramC g)
  have b2 := Blk.new (w.alloc (.cells (gramC g) 27)) 82 #[.slice aS S.length cS]
  have b3 := Blk.new ((w.alloc (.cells (gramC g) 27)).alloc (.cells #[.slice aS S.length cS] 82)) 27 #[.slice none 0 0, .slice none 0 0, .int .i64 0, .slice none 0 0, .slice none 0 0]
  have b4 := Blk.new (((w.alloc (.cells (gramC g) 27)).alloc (.cells #[.slice aS S.length cS] 82)).alloc (.cells #[.slice none 0 0, .slice none 0 0, .int .i64 0, .slice none 0 0, .slice none 0 0] 27)) 70 #[.func (.func 70) #[] #[.pointer (some ⟨w.heap.size + 1, 0, none⟩)]]
  simp only [World.size_alloc] at b2 b3 b4
  have hB1 : Below w.heap.size w W1 := by rw [hW1]; exact ((((Below.refl _ w).alloc (Nat.le_refl _) _).alloc (by simp) _).alloc (by simp; omega) _).alloc (by simp; omega) _
  have k1 : Blk W1 w.heap.size 27 (gramC g) := by rw [hW1]; exact ((b1.alloc _).alloc _).alloc _
  have k2 : Blk W1 (w.heap.size + 1) 82 #[.slice aS S.length cS] := by rw [hW1]; exact (b2.alloc _).alloc _
  have k3 : Blk W1 (w.heap.size + 2) 27 #[.slice none 0 0, .slice none 0 0, .int .i64 0, .slice none 0 0, .slice none 0 0] := by rw [hW1]; exact b3.alloc _
  have k4 : Blk W1 (w.heap.size + 3) 70 #[.func (.func 70) #[] #[.pointer (some ⟨w.heap.size + 1, 0, none⟩)]] := by rw [hW1]; exact b4
  have HC1 := Lib.hid (places_any g.sorts.length hm.sorts2 (sP S) 70 #[.pointer (some ⟨w.heap.size + 1, 0, none⟩)] (fun _ _ => by kernel_rfl) W1 (fun i hi W hW =>
    f70_any S (w.heap.size + 1) aS cS i (by rw [hS]; exact hi) W (k2.below hW k2.lt) (hrow.belowN (hB1.trans (hW.mono hB1.size)))))
  have HC2 := Lib.hid (fun W (hW : Below W1.heap.size W1 W) => places_any g.prods.length hm.prods (pP g S) 72 #[.pointer (some ⟨w.heap.size, 0, none⟩), .pointer (some ⟨w.heap.size + 3, 0, none⟩)] (fun _ _ => by kernel_rfl) W (fun i hi V hV => by
    obtain ⟨x, hx⟩ : ∃ x, g.prods[i]? = some x := ⟨_, List.getElem?_eq_getElem hi⟩
    have hV1 : Below W1.heap.size W1 V := hW.trans (hV.mono hW.size)
    have e : pP g S i = stayP S x := by unfold pP; rw [hx]
    rw [e]
    exact f72_any g hm S hS w.heap.size (w.heap.size + 3) (w.heap.size + 1) aS cS i x hx V (hg.below (hB1.trans (hV1.mono hB1.size))) (k1.below hV1 k1.lt) (k4.below hV1 k4.lt) (k2.below hV1 k2.lt) (hrow.belowN (hB1.trans (hV1.mono hB1.size)))))
  have HM := Lib.hid hm
  have HG := Lib.hid hg
  have HNil := Lib.hid hnil
  have HK1 := Lib.hid k1
  have HK3 := Lib.hid k3
  have HB1 := Lib.hid hB1
  have Hs1 := Lib.hid hs1
  have HW1 := Lib.hid hW1
  have hmp := hm.prods
  have hms := hm.sorts2
  have hff := hf.forbid
  have hfw := hf.follow
  obtain ⟨stn, hst, hstn⟩ := hm.start
  clear b1 b2 b3 b4 k1 k2 k3 k4 hB1 hs1 hW1 hm hg hnil hrow hf hS
  obtain ⟨pa, hpa⟩ : ∃ p, p = g.pa := ⟨_, rfl⟩
  have HPa := Lib.hid hpa
  obtain ⟨sa, hsa⟩ : ∃ p, p = g.sa := ⟨_, rfl⟩
  have HSa := Lib.hid hsa
  obtain ⟨fa, hfa⟩ : ∃ p, p = g.fa := ⟨_, rfl⟩
  have HFa := Lib.hid hfa
  obtain ⟨wa, hwa⟩ : ∃ p, p = g.wa := ⟨_, rfl⟩
  have HWa := Lib.hid hwa
  have HGr : Hid (gramC g = #[.slice sa g.sorts.length g.sc, .slice pa g.prods.length g.pc, .int .i64 (stn : Int), .slice fa g.forbid.length g.fc, .slice wa g.follow.length g.wc]) := Lib.hid (by rw [hpa, hsa, hfa, hwa, ← hst]; rfl)
  have HSt := Lib.hid hst
  unfold gramV
  rw [HGr.out] at HW1 HK1 ⊢
  clear hpa hsa hfa hwa hst
  go_enter Try.func53, Try.ntmps53
  go_wp2_with fail
  rw [← HW1.out]
  with_reducible refine HC1.out.mono ?_
  rintro e w3 ⟨rfl, hP1, hB3⟩
  have HK3' := Lib.hid (HK1.out.below hB3 HK1.out.lt)
  have c0 := HK3'.out.cell 0
  have c1 := HK3'.out.cell 1
  simp only [List.getElem?_toArray, List.getElem?_cons_zero, List.getElem?_cons_succ] at c0 c1
  have l3 := HK3'.out.lt
  have HP1 := Lib.hid hP1
  have HB3 := Lib.hid hB3
  have HC3 := Lib.hid (HC2.out w3 hB3)
  obtain ⟨P1, hp1⟩ : ∃ P, P = W1.heap.size := ⟨_, rfl⟩
  rw [← hp1] at HP1 ⊢
  have Hp1 := Lib.hid hp1
  clear hP1 hB3 hp1 HC1 HC2
  go_wp2_with fail
  with_reducible refine HC3.out.mono ?_
  rintro e w4 ⟨rfl, hP2, hB4⟩
  have HK4 := Lib.hid (HK3'.out.below hB4 HK3'.out.lt)
  have d2 := HK4.out.cell 2
  simp only [List.getElem?_toArray, List.getElem?_cons_zero, List.getElem?_cons_succ] at d2
  have l4 := HK4.out.lt
  have HP1' := Lib.hid (HP1.out.below hB4 HP1.out.lt)
  have p1 := HP1'.out.cell hstn
  have lp1 := HP1'.out.lt
  have HP2 := Lib.hid hP2
  have HB4 := Lib.hid (HB1.out.trans ((HB3.out.trans (hB4.mono HB3.out.size)).mono HB1.out.size))
  have HBr := Lib.hid ((HK3.out.below HB3.out HK3.out.lt).below hB4 (Nat.lt_of_lt_of_le HK3.out.lt HB3.out.size))
  have hw3 : W1.heap.size < w3.heap.size := by have := HP1.out.lt; rw [Hp1.out] at this; exact this
  obtain ⟨P2, hp2⟩ : ∃ P, P = w3.heap.size := ⟨_, rfl⟩
  rw [← hp2] at HP2 ⊢
  have hlt12 : w.heap.size + 4 = P1 ∧ P1 < P2 ∧ P2 < w4.heap.size := ⟨by rw [Hp1.out, Hs1.out], by rw [Hp1.out, hp2]; exact hw3, HP2.out.lt⟩
  have HLt := Lib.hid hlt12
  have tn : (stn : Int) < 1000 := by omega
  have HPlI : Hid (plI (sP S) stn = plI (sP S) g.start.toNat) := Lib.hid (by rw [HSt.out, Int.toNat_natCast])
  obtain ⟨st, hst⟩ : ∃ v, v = plI (sP S) stn := ⟨_, rfl⟩
  rw [← hst] at p1 HPlI
  clear hP2 hB4 hp2 HC3 HP1 HB3 HK3' hw3 hlt12 hst c0 c1 l3 HB1 HK1 HK3 HW1 Hs1 Hp1
  go_wp2
  go_region
  obtain ⟨W5, hW5⟩ : ∃ W5, W5 = (w4.alloc (.cells #[.slice none 0 0, .slice none 0 0, .int .i64 st, .slice none 0 0, .slice none 0 0] 27)).drew := ⟨_, rfl⟩
  have hKS : KS g (sP S) (pP g S) w P1 P2 w4.heap.size (w4.heap.size + 1) st (.slice none 0 0) (.slice none 0 0) (.slice none 0 0) (.slice none 0 0) [] [] [] [] W5 := by
    obtain ⟨q1, q2, q3⟩ := HLt.out
    have hB5 : Below w4.heap.size w4 W5 := by rw [hW5]; exact ((Below.refl _ _).alloc (Nat.le_refl _) _).drew
    refine ⟨⟨by omega, by omega, by omega, by omega, by omega, by omega, by omega⟩, ?_, ?_, HBr.out.below hB5 HBr.out.lt, HP1'.out.below hB5 HP1'.out.lt, HP2.out.below hB5 HP2.out.lt, HB4.out.trans (hB5.mono HB4.out.size), World.ownsRow_nil _ _ _ _, World.ownsRow_nil _ _ _ _, World.ownsRow_nil _ _ _ _, World.ownsRow_nil _ _ _ _, (fun x hx => by cases hx), ?_⟩
    · rw [HGr.out]; exact HK4.out.below hB5 HK4.out.lt
    · rw [hW5]; exact Blk.new w4 27 _
    · rw [hW5]; simp [World.drew]
  rw [← hW5]
  have hLs : g.sorts.length ≤ 1000 := HM.out.sorts2
  have HKS := Lib.hid hKS
  have e0 := hKS.bg.gram.1
  rw [← HSa.out] at e0
  have l5 := hKS.bg.lt
  have HLs := Lib.hid hLs
  clear hW5 hKS p1 lp1 d2 l4 HP1' HP2 HB4 HBr HK4 HLt tn hLs
  go_wp2
  go_loopw [38] (fun i wr => ∃ k : Nat, i = .int .i64 k ∧ k ≤ g.sorts.length ∧ ∃ v0, Hid (KS g (sP S) (pP g S) w P1 P2 w4.heap.size (w4.heap.size + 1) st v0 (.slice none 0 0) (.slice none 0 0) (.slice none 0 0) (keepL (sP S) (g.sorts.take k)) [] [] [] wr))
    (fun i _ => g.sorts.length - (intOf i).toNat)
  case atStart => exact ⟨0, rfl, Nat.zero_le _, _, HKS⟩
  case round =>
    clear HKS e0 l5
    obtain ⟨k, rfl, hk, v0, hks⟩ := hrel
    by_cases hlt : k < g.sorts.length
    · obtain ⟨s, hsk⟩ : ∃ s, g.sorts[k]? = some s := ⟨_, List.getElem?_eq_getElem hlt⟩
      obtain ⟨b, off, hsa, hbw, hc, _⟩ := HG.out.sorts k s hsk
      rw [← HSa.out] at hsa
      subst hsa
      have hks' := hks.out
      have c0 := Str_at (hc.below hks'.b hbw)
      rw [Nat.mul_one] at c0
      have t1 : (k : Int) < 1000 := by omega
      have n1 : (k : Int) < (g.sorts.length : Int) := by omega
      have p1 := hks'.p1.cell hlt
      have e1 := plI_neg (sP S) k
      have HMid := Lib.hid (keep_mid (sP S) g.sorts k s hsk)
      generalize plI (sP S) k = pv at *
      cases hq : sP S k with
      | false =>
        rw [hq] at e1 HMid
        rw [Bool.not_false] at e1
        go_wp2
        go_roundw
        case rel => exact ⟨k + 1, by go_num, by omega, v0, by rw [HMid.out]; simpa using hks⟩
        case measure => simp [intOf]; omega
      | true =>
        rw [hq] at e1 HMid
        rw [Bool.not_true] at e1
        have g0 := hks'.bo.cell 0
        simp only [List.getElem?_toArray, List.getElem?_cons_zero, List.getElem?_cons_succ] at g0
        have lN := hks'.lt
        have lL := keepL_len (sP S) (g.sorts.take k)
        rw [List.length_take, Nat.min_eq_left hk] at lL
        have lo := hks'.bo.lt
        have HCN := Lib.hid (cells_new wr #[.string s] 9)
        clear hc
        go_wp2_with (at_builtin; refine wpList_append_own _ rfl (.tmp 50) (.tmp 52) 22 rfl (w4.heap.size + 1) 9 i9 (.string ⟨#[]⟩) 1 16 Try.underlying22 ti9 tz9 ts9 tb9 rfl (by decide) _ _ _ rfl (hks.out.r0.alloc _) ⟨wr.heap.size, 0, none⟩ 1 1 [.string s] rfl rfl HCN.out (by simp [Value.oneCell']) (by unfold maxLen; omega) (by omega) (by simp; omega) ?_; intro v5 w5 hown5 hgrow5 _; obtain ⟨ra, rc, rfl, _, _⟩ := own_slice hown5; have hka := hks'.below ((Below.refl wr.heap.size wr).alloc (Nat.le_refl _) (.cells #[.string s] 9)); have hbo5 := hka.boxo hka.r0 hgrow5; have f0 := hbo5.frozen 0; have c5 := hbo5.cell 0; have l5 := hbo5.lt; simp only [List.getElem?_toArray, List.getElem?_cons_zero, List.getElem?_cons_succ] at c5; have HKN := Lib.hid (hka.push0 s _ hgrow5 hown5); clear hka hbo5 hown5 hgrow5)
        go_roundw
        case rel => exact ⟨k + 1, by go_num, by omega, _, by rw [HMid.out]; exact HKN⟩
        case measure => simp [intOf]; omega
    · obtain rfl : k = g.sorts.length := by omega
      have hks' := hks.out
      rw [List.take_length] at hks'
      have HKS := Lib.hid hks'
      have e1 := hks'.bg.gram.2.1
      rw [← HPa.out] at e1
      have l5 := hks'.bg.lt
      clear hks hks' hlt hk
      go_wp2
      go_loopw [59] (fun i wr => ∃ k : Nat, i = .int .i64 k ∧ k ≤ g.prods.length ∧ ∃ v1 ps, Hid (KS g (sP S) (pP g S) w P1 P2 w4.heap.size (w4.heap.size + 1) st v0 v1 (.slice none 0 0) (.slice none 0 0) (keepL (sP S) g.sorts) ps [] [] wr)
          ∧ Hid (ps.map bareP = (keepL (pP g S) (g.prods.take k)).map fun x => bareP (movP (sP S) none 0 x)))
        (fun i _ => g.prods.length - (intOf i).toNat)
      case atStart => exact ⟨0, rfl, Nat.zero_le _, _, [], HKS, Lib.hid rfl⟩
      case round =>
        clear HKS e1 l5
        obtain ⟨k, rfl, hk, v1, ps, hks, hps⟩ := hrel
        by_cases hlt : k < g.prods.length
        · obtain ⟨x, hxk⟩ : ∃ x, g.prods[k]? = some x := ⟨_, List.getElem?_eq_getElem hlt⟩
          have hmem := List.mem_of_getElem? hxk
          obtain ⟨b, off, hpa, hbw, hc, hpi⟩ := HG.out.prods k x hxk
          rw [← HPa.out] at hpa
          subst hpa
          have hks' := hks.out
          have HMv := Lib.hid (fun W (hW : Below wr.heap.size wr W) => moved_any x P1 g.sorts.length HM.out.sorts2 (sP S) W (hpi.below (hks'.b.trans (hW.mono hks'.b.size))) (HM.out.right x hmem) (HNil.out.r x hmem) (hks'.p1.below hW hks'.p1.lt)
            (HM.out.left x hmem) (HM.out.sym x hmem))
          obtain ⟨c0, c1, c2, c3, c4, c5, c6⟩ := Prod_at (hc.below hks'.b hbw)
          have t1 : (k : Int) < 1000 := by omega
          have n1 : (k : Int) < (g.prods.length : Int) := by omega
          have p1 := hks'.p2.cell hlt
          have e1 := plI_neg (pP g S) k
          have HMid := Lib.hid (keep_mid (pP g S) g.prods k x hxk)
          have lo := hks'.bo.lt
          have lP1 := hks'.p1.lt
          have lP2 := hks'.p2.lt
          clear hxk hc hpi
          generalize plI (pP g S) k = pv at *
          obtain ⟨left, xra, xrc, right, cons, role, prefer, avoid, frm⟩ := x
          obtain ⟨left', hleft'⟩ : ∃ l, l = plI (sP S) left.toNat := ⟨_, rfl⟩
          have HL' := Lib.hid hleft'
          unfold prodV movP at HMv
          unfold prodC at *
          dsimp only at *
          rw [← hleft'] at HMv
          simp only [List.length_map] at HMv
          clear hleft'
          have HKA := Lib.hid (hks'.below ((Below.refl wr.heap.size wr).alloc (Nat.le_refl _) (.cells #[.int .i64 left, .slice xra right.length xrc, .string cons, .int .i64 role, .bool prefer, .bool avoid, .int .i64 frm] 46)))
          cases hq : pP g S k with
          | false =>
            rw [hq] at e1 HMid
            rw [Bool.not_false] at e1
            go_wp2
            go_roundw
            case rel => exact ⟨k + 1, by go_num, by omega, _, ps, HKA, Lib.hid (by rw [HMid.out]; simpa using hps.out)⟩
            case measure => simp [intOf]; omega
          | true =>
            rw [hq] at e1 HMid
            rw [Bool.not_true] at e1
            have lN := hks'.lt
            have HPB : Hid ((∀ ra rc, (ps ++ [movP (sP S) ra rc ⟨left, xra, xrc, right, cons, role, prefer, avoid, frm⟩]).map bareP = (keepL (pP g S) (g.prods.take (k + 1))).map (fun x => bareP (movP (sP S) none 0 x)))) := Lib.hid (by
              intro ra rc
              rw [HMid.out, List.map_append, List.map_append, hps.out]; rfl)
            have hb := Blk.new wr 46 #[.int .i64 left, .slice xra right.length xrc, .string cons, .int .i64 role, .bool prefer, .bool avoid, .int .i64 frm]
            obtain ⟨WA, hWA⟩ : ∃ W, W = wr.alloc (.cells #[.int .i64 left, .slice xra right.length xrc, .string cons, .int .i64 role, .bool prefer, .bool avoid, .int .i64 frm] 46) := ⟨_, rfl⟩
            have lA : wr.heap.size < WA.heap.size := by rw [hWA]; simp
            have hBA : Below wr.heap.size wr WA := by rw [hWA]; exact (Below.refl _ _).alloc (Nat.le_refl _) _
            rw [← hWA] at HKA hb
            have HMA := Lib.hid (fun W (hW : Below WA.heap.size WA W) => HMv.out W (hBA.trans (hW.mono hBA.size)))
            have HHi := Lib.hid (high_ne hks'.r1 (Nat.le_refl _))
            have Hb := Lib.hid hb
            have lps : ps.length ≤ k := by
              have h := congrArg List.length hps.out
              rw [List.length_map, List.length_map] at h
              rw [h]
              exact Nat.le_trans (keepL_len _ _) (by rw [List.length_take]; omega)
            have hN := hks'.lt
            clear HMid hps HMv hks' hks
            go_wp2_with fail
            rw [← hWA]
            clear c0 c1 c2 c3 c4 c5 c6
            have g1 := HKA.out.bo.cell 1
            obtain ⟨d0, d1, d2, d3, d4, d5, d6⟩ := cells7 hb
            simp only [List.getElem?_toArray, List.getElem?_cons_zero, List.getElem?_cons_succ] at g1
            have hne : ¬ w4.heap.size = wr.heap.size := by omega
            have hne' : ¬ wr.heap.size = w4.heap.size := by omega
            clear hb hBA hWA
            go_region_law (first
              | ((refine step_append_lies _ (by rfl) (.tmp 71) (.tmp 75) 23 (by rfl) (w4.heap.size + 1) 46 i46 (.agg #[.int .i64 0, .slice none 0 0, .string ⟨#[]⟩, .int .i64 0, .bool false, .bool false, .int .i64 0]) 7 72 Try.underlying23 ti46 tz46 ts46 tb46 (by rfl) (by decide) v1 ps.length (cellsL prodC ps) (by rfl) (HK3.out.r1.alloc _) ⟨w3.heap.size, 0, none⟩ 1 1 [.int .i64 left', .slice ra right.length rc, .string cons, .int .i64 role, .bool prefer, .bool avoid, .int .i64 frm] (by rfl) (by rfl) HCN.out (by simp [Value.oneCell']) (by omega) (by unfold maxLen; omega) (by omega) (by simp; omega) (w3.heap.size + 1) (by simp) ?_; intro g5 cap5 w5 hown5 hgrow5 hat5 hlt5; have hka := HK3.out.below ((Below.refl w3.heap.size w3).alloc (Nat.le_refl _) (.cells #[.int .i64 left', .slice ra right.length rc, .string cons, .int .i64 role, .bool prefer, .bool avoid, .int .i64 frm] 46)); have hbo5 := hka.boxo hka.r1 hgrow5; have f5 := hbo5.frozen 1; have l5 := hbo5.lt; have g5' := hbo5.cell 1; simp only [List.getElem?_toArray, List.getElem?_cons_zero, List.getElem?_cons_succ] at g5'; obtain ⟨r0, r1, r2, r3, r4, r5, r6⟩ := cells7 ((Hb3.out.alloc _).kept hgrow5 HHi.out); have HKN := Lib.hid (hka.push1 (movP (sP S) ra rc ⟨left, xra, xrc, right, cons, role, prefer, avoid, frm⟩) _ (by unfold movP; rw [List.length_map]; exact HO3.out.alloc _) hgrow5 (by unfold movP prodC; dsimp only; rw [← HL'.out, List.length_map]; exact hown5)); clear hka hbo5 hown5 hgrow5))
              | (go_simp; go_at_call 73; (with_reducible refine (HMA.out _ (Below.refl _ WA).drew).mono ?_); rintro e w3 ⟨ra, rc, rfl, hown3, hB3⟩; have hB3' : Below WA.heap.size WA w3 := ⟨hB3.os, hB3.tape, hB3.output, hB3.size, hB3.block⟩; have HK3 := Lib.hid (HKA.out.below hB3'); have g3 := HK3.out.bo.cell 1; have lo3 := HK3.out.bo.lt; have Hb3 := Lib.hid (Hb.out.below hB3' lA); obtain ⟨q0, q1, q2, q3, q4, q5, q6⟩ := cells7 Hb3.out; simp only [List.getElem?_toArray, List.getElem?_cons_zero, List.getElem?_cons_succ] at g3; have l3 := hB3'.size; have HO3 := Lib.hid (own_mono hown3 (Nat.le_trans HKA.out.lt (Nat.le_refl _) : w4.heap.size + 1 ≤ WA.drew.heap.size)); have HCN := Lib.hid (cells_new w3 #[.int .i64 left', .slice ra right.length rc, .string cons, .int .i64 role, .bool prefer, .bool avoid, .int .i64 frm] 46); clear hown3 hB3 hB3'))
            all_goals
              go_wp2
              go_roundw
              case rel => exact ⟨k + 1, by go_num, by omega, _, _, by exact HKN, Lib.hid (HPB.out _ _)⟩
              case measure => simp [intOf]; omega
        · obtain rfl : k = g.prods.length := by omega
          have hks' := hks.out
          have hps' := hps.out
          rw [List.take_length] at hps'
          have HKS := Lib.hid hks'
          have HPS := Lib.hid hps'
          have e1 := hks'.bg.gram.2.2.2.1
          rw [← HFa.out] at e1
          have l5 := hks'.bg.lt
          clear hks hks' hps hps' hlt hk
          go_wp2
          go_loopw [82] (fun i wr => ∃ k : Nat, i = .int .i64 k ∧ k ≤ g.forbid.length ∧ ∃ v3 fs, Hid (KS g (sP S) (pP g S) w P1 P2 w4.heap.size (w4.heap.size + 1) st v0 v1 v3 (.slice none 0 0) (keepL (sP S) g.sorts) ps fs [] wr)
              ∧ Hid (fs = (g.forbid.take k).filterMap (movF (pP g S))))
            (fun i _ => g.forbid.length - (intOf i).toNat)
          case atStart => exact ⟨0, rfl, Nat.zero_le _, _, [], HKS, Lib.hid rfl⟩
          case round =>
            clear HKS e1 l5
            obtain ⟨k, rfl, hk, v3, fs, hks, hfs⟩ := hrel
            by_cases hlt : k < g.forbid.length
            · obtain ⟨f, hfk⟩ : ∃ f, g.forbid[k]? = some f := ⟨_, List.getElem?_eq_getElem hlt⟩
              have hmem := List.mem_of_getElem? hfk
              obtain ⟨b, off, hfa, hbw, hc, _⟩ := HG.out.forbid k f hfk
              rw [← HFa.out] at hfa
              subst hfa
              have hks' := hks.out
              obtain ⟨⟨i, hi, hin⟩, ⟨j, hj, hjn⟩⟩ := HM.out.forb f hmem
              obtain ⟨c0, c1, c2⟩ := For_at (hc.below hks'.b hbw)
              have n1 : (k : Int) < (g.forbid.length : Int) := by omega
              have ti : (i : Int) < 1000 := by omega
              have tj : (j : Int) < 1000 := by omega
              have p1 := hks'.p2.cell hin
              have p2 := hks'.p2.cell hjn
              have HTk := Lib.hid (take_snoc g.forbid k f hfk)
              have lo := hks'.bo.lt
              have lP2 := hks'.p2.lt
              have g3 := hks'.bo.cell 3
              simp only [List.getElem?_toArray, List.getElem?_cons_zero, List.getElem?_cons_succ] at g3
              obtain ⟨fp, fat, fch⟩ := f
              dsimp only at *
              subst hi
              subst hj
              have HMf : Hid (movF (pP g S) ⟨(i : Int), fat, (j : Int)⟩ = if plI (pP g S) i ≠ -1 ∧ plI (pP g S) j ≠ -1 then some ⟨plI (pP g S) i, fat, plI (pP g S) j⟩ else none) := Lib.hid (by unfold movF; simp only [Int.toNat_natCast])
              have lfs : fs.length ≤ k := by rw [hfs.out]; exact Nat.le_trans (List.length_filterMap_le _ _) (by rw [List.length_take]; omega)
              obtain ⟨m, hm⟩ : ∃ m, m = movF (pP g S) ⟨(i : Int), fat, (j : Int)⟩ := ⟨_, rfl⟩
              rw [← hm] at HMf
              have HFS : Hid ((g.forbid.take (k + 1)).filterMap (movF (pP g S)) = fs ++ m.toList) := Lib.hid (by rw [HTk.out, fm_snoc, ← hfs.out, hm])
              clear hfk hc hm HTk
              obtain ⟨u1, hu1⟩ : ∃ u, u = plI (pP g S) i := ⟨_, rfl⟩
              obtain ⟨u2, hu2⟩ : ∃ u, u = plI (pP g S) j := ⟨_, rfl⟩
              rw [← hu1] at p1 HMf
              rw [← hu2] at p2 HMf
              clear hu1 hu2
              have hN := hks'.lt
              clear hmem hks' hfs
              go_wp2
              go_region
              have HKB := Lib.hid (hks.out.below (((Below.refl wr.heap.size wr).alloc (Nat.le_refl _) (.cells #[.int .i64 u1, .int .i64 fat, .int .i64 u2] 78)).drew))
              cases h1 : (u1 == -1) with
              | true =>
                obtain rfl := eq_of_beq h1
                have HN : Hid (fs = (g.forbid.take (k + 1)).filterMap (movF (pP g S))) := Lib.hid (by
                  rw [HFS.out, HMf.out, if_neg (by simp)]; simp)
                go_wp2
                go_roundw
                case rel => exact ⟨k + 1, by go_num, by omega, _, fs, HKB, HN⟩
                case measure => simp [intOf]; omega
              | false =>
                have h1' : (u1 != -1) = true := by simp [bne, h1]
                cases h2 : (u2 == -1) with
                | true =>
                  obtain rfl := eq_of_beq h2
                  have HN : Hid (fs = (g.forbid.take (k + 1)).filterMap (movF (pP g S))) := Lib.hid (by
                    rw [HFS.out, HMf.out, if_neg (by simp)]; simp)
                  go_wp2
                  go_roundw
                  case rel => exact ⟨k + 1, by go_num, by omega, _, fs, HKB, HN⟩
                  case measure => simp [intOf]; omega
                | false =>
                  have h2' : (u2 != -1) = true := by simp [bne, h2]
                  have HN : Hid (fs ++ [⟨u1, fat, u2⟩] = (g.forbid.take (k + 1)).filterMap (movF (pP g S))) := Lib.hid (by
                    rw [HFS.out, HMf.out, if_pos ⟨by simpa using h1, by simpa using h2⟩]; rfl)
                  have HCN := cells_new (wr.alloc (.cells #[.int .i64 u1, .int .i64 fat, .int .i64 u2] 78)) #[.int .i64 u1, .int .i64 fat, .int .i64 u2] 78
                  rw [World.size_alloc] at HCN
                  have HCN := Lib.hid HCN
                  have HKC := Lib.hid (hks.out.below ((((Below.refl wr.heap.size wr).alloc (Nat.le_refl _) (.cells #[.int .i64 u1, .int .i64 fat, .int .i64 u2] 78)).alloc (by simp) (.cells #[.int .i64 u1, .int .i64 fat, .int .i64 u2] 78)).drew))
                  go_wp2_with (at_builtin; refine wpList_append_own _ rfl (.tmp 109) (.tmp 111) 24 rfl (w4.heap.size + 1) 78 i78 _ 3 24 Try.underlying24 ti78 tz78 ts78 tb78 rfl (by decide) _ _ _ rfl HKC.out.r3 ⟨wr.heap.size + 1, 0, none⟩ 1 1 [.int .i64 u1, .int .i64 fat, .int .i64 u2] rfl rfl HCN.out (by simp [Value.oneCell']) (by unfold maxLen; omega) (by omega) (by simp; omega) ?_; intro v5 w5 hown5 hgrow5 _; obtain ⟨ra, rc, rfl, _, _⟩ := own_slice hown5; have hka := HKC.out; have hbo5 := hka.boxo hka.r3 hgrow5; have f0 := hbo5.frozen 3; have c5 := hbo5.cell 3; have l5 := hbo5.lt; simp only [List.getElem?_toArray, List.getElem?_cons_zero, List.getElem?_cons_succ] at c5; have HKN := Lib.hid (hka.push3 ⟨u1, fat, u2⟩ _ hgrow5 hown5); clear hka hbo5 hown5 hgrow5)
                  go_roundw
                  case rel => exact ⟨k + 1, by go_num, by omega, _, _, HKN, HN⟩
                  case measure => simp [intOf]; omega
            · obtain rfl : k = g.forbid.length := by omega
              have hks' := hks.out
              have hfs' := hfs.out
              rw [List.take_length] at hfs'
              have HKS := Lib.hid hks'
              have HFS := Lib.hid hfs'
              have e1 := hks'.bg.gram.2.2.2.2
              rw [← HWa.out] at e1
              have l5 := hks'.bg.lt
              clear hks hks' hfs hfs' hlt hk
              go_wp2
              go_loopw [118] (fun i wr => ∃ k : Nat, i = .int .i64 k ∧ k ≤ g.follow.length ∧ ∃ v4 ws, Hid (KS g (sP S) (pP g S) w P1 P2 w4.heap.size (w4.heap.size + 1) st v0 v1 v3 v4 (keepL (sP S) g.sorts) ps fs ws wr)
                  ∧ Hid (ws = (g.follow.take k).filterMap (movW (sP S))))
                (fun i _ => g.follow.length - (intOf i).toNat)
              case atStart => exact ⟨0, rfl, Nat.zero_le _, _, [], HKS, Lib.hid rfl⟩
              case round =>
                clear HKS e1 l5
                obtain ⟨k, rfl, hk, v4, ws, hks, hws⟩ := hrel
                by_cases hlt : k < g.follow.length
                · obtain ⟨f, hfk⟩ : ∃ f, g.follow[k]? = some f := ⟨_, List.getElem?_eq_getElem hlt⟩
                  have hmem := List.mem_of_getElem? hfk
                  obtain ⟨b, off, hwa, hbw, hc, _⟩ := HG.out.follow k f hfk
                  rw [← HWa.out] at hwa
                  subst hwa
                  have hks' := hks.out
                  obtain ⟨i, hi, hin⟩ := HM.out.fol f hmem
                  obtain ⟨c0, c1, c2, c3, c4⟩ := Fol_at (hc.below hks'.b hbw)
                  have n1 : (k : Int) < (g.follow.length : Int) := by omega
                  have ti : (i : Int) < 1000 := by omega
                  have p1 := hks'.p1.cell hin
                  have HTk := Lib.hid (take_snoc g.follow k f hfk)
                  have lo := hks'.bo.lt
                  have lP1 := hks'.p1.lt
                  have g3 := hks'.bo.cell 4
                  simp only [List.getElem?_toArray, List.getElem?_cons_zero, List.getElem?_cons_succ] at g3
                  obtain ⟨fp, fnot⟩ := f
                  dsimp only at *
                  subst hi
                  have HMf : Hid (movW (sP S) ⟨(i : Int), fnot⟩ = if plI (sP S) i ≠ -1 then some ⟨plI (sP S) i, fnot⟩ else none) := Lib.hid (by unfold movW; simp only [Int.toNat_natCast])
                  have lws : ws.length ≤ k := by rw [hws.out]; exact Nat.le_trans (List.length_filterMap_le _ _) (by rw [List.length_take]; omega)
                  obtain ⟨m, hm⟩ : ∃ m, m = movW (sP S) ⟨(i : Int), fnot⟩ := ⟨_, rfl⟩
                  rw [← hm] at HMf
                  have HFS : Hid ((g.follow.take (k + 1)).filterMap (movW (sP S)) = ws ++ m.toList) := Lib.hid (by rw [HTk.out, fm_snoc, ← hws.out, hm])
                  clear hfk hc hm HTk
                  obtain ⟨u1, hu1⟩ : ∃ u, u = plI (sP S) i := ⟨_, rfl⟩
                  rw [← hu1] at p1 HMf
                  clear hu1
                  have hN := hks'.lt
                  clear hmem hks' hws
                  go_wp2
                  go_region
                  have HKB := Lib.hid (hks.out.below (((Below.refl wr.heap.size wr).alloc (Nat.le_refl _) (.cells #[.int .i64 u1, .int .u64 (wdI fnot 0), .int .u64 (wdI fnot 1), .int .u64 (wdI fnot 2), .int .u64 (wdI fnot 3)] 80)).drew))
                  cases h1 : (u1 == -1) with
                  | true =>
                    obtain rfl := eq_of_beq h1
                    have HN : Hid (ws = (g.follow.take (k + 1)).filterMap (movW (sP S))) := Lib.hid (by
                      rw [HFS.out, HMf.out, if_neg (by simp)]; simp)
                    go_wp2
                    go_roundw
                    case rel => exact ⟨k + 1, by go_num, by omega, _, ws, HKB, HN⟩
                    case measure => simp [intOf]; omega
                  | false =>
                    have h1' : (u1 != -1) = true := by simp [bne, h1]
                    have HN : Hid (ws ++ [⟨u1, fnot⟩] = (g.follow.take (k + 1)).filterMap (movW (sP S))) := Lib.hid (by
                      rw [HFS.out, HMf.out, if_pos (by simpa using h1)]; rfl)
                    have HCN := cells_new (wr.alloc (.cells #[.int .i64 u1, .int .u64 (wdI fnot 0), .int .u64 (wdI fnot 1), .int .u64 (wdI fnot 2), .int .u64 (wdI fnot 3)] 80)) #[.int .i64 u1, .int .u64 (wdI fnot 0), .int .u64 (wdI fnot 1), .int .u64 (wdI fnot 2), .int .u64 (wdI fnot 3)] 80
                    rw [World.size_alloc] at HCN
                    have HCN := Lib.hid HCN
                    have HKC := Lib.hid (hks.out.below ((((Below.refl wr.heap.size wr).alloc (Nat.le_refl _) (.cells #[.int .i64 u1, .int .u64 (wdI fnot 0), .int .u64 (wdI fnot 1), .int .u64 (wdI fnot 2), .int .u64 (wdI fnot 3)] 80)).alloc (by simp) (.cells #[.int .i64 u1, .int .u64 (wdI fnot 0), .int .u64 (wdI fnot 1), .int .u64 (wdI fnot 2), .int .u64 (wdI fnot 3)] 80)).drew))
                    go_wp2_with (at_builtin; refine wpList_append_own _ rfl (.tmp 133) (.tmp 135) 25 rfl (w4.heap.size + 1) 80 i80 _ 5 40 Try.underlying25 ti80 tz80 ts80 tb80 rfl (by decide) _ _ _ rfl HKC.out.r4 ⟨wr.heap.size + 1, 0, none⟩ 1 1 [.int .i64 u1, .int .u64 (wdI fnot 0), .int .u64 (wdI fnot 1), .int .u64 (wdI fnot 2), .int .u64 (wdI fnot 3)] rfl rfl HCN.out (by simp [Value.oneCell']) (by unfold maxLen; omega) (by omega) (by simp; omega) ?_; intro v5 w5 hown5 hgrow5 _; obtain ⟨ra, rc, rfl, _, _⟩ := own_slice hown5; have hka := HKC.out; have hbo5 := hka.boxo hka.r4 hgrow5; have f0 := hbo5.frozen 4; have c5 := hbo5.cell 4; have l5 := hbo5.lt; simp only [List.getElem?_toArray, List.getElem?_cons_zero, List.getElem?_cons_succ] at c5; have HKN := Lib.hid (hka.push4 ⟨u1, fnot⟩ _ hgrow5 hown5); clear hka hbo5 hown5 hgrow5)
                    go_roundw
                    case rel => exact ⟨k + 1, by go_num, by omega, _, _, HKN, HN⟩
                    case measure => simp [intOf]; omega
                · obtain rfl : k = g.follow.length := by omega
                  have hks' := hks.out
                  obtain ⟨sa', sc', rfl, _, _⟩ := own_slice hks'.r0
                  obtain ⟨pa', pc', rfl, _, _⟩ := own_slice hks'.r1
                  obtain ⟨fa', fc', rfl, _, _⟩ := own_slice hks'.r3
                  obtain ⟨wa', wc', rfl, _, _⟩ := own_slice hks'.r4
                  have hws' := hws.out
                  rw [List.take_length] at hws'
                  have HKS := Lib.hid hks'
                  have HWS := Lib.hid hws'
                  have d0 := hks'.bo.cell 0
                  have d1 := hks'.bo.cell 1
                  have d2 := hks'.bo.cell 2
                  have d3 := hks'.bo.cell 3
                  have d4 := hks'.bo.cell 4
                  simp only [List.getElem?_toArray, List.getElem?_cons_zero, List.getElem?_cons_succ] at d0 d1 d2 d3 d4
                  have f0 : wr.frozen? ⟨w.heap.size + 1 + 1, 0, none⟩ = false := hks'.br.frozen 0
                  have f1 : wr.frozen? ⟨w.heap.size + 1 + 1, 1, none⟩ = false := hks'.br.frozen 1
                  have f2 : wr.frozen? ⟨w.heap.size + 1 + 1, 2, none⟩ = false := hks'.br.frozen 2
                  have f3 : wr.frozen? ⟨w.heap.size + 1 + 1, 3, none⟩ = false := hks'.br.frozen 3
                  have f4 : wr.frozen? ⟨w.heap.size + 1 + 1, 4, none⟩ = false := hks'.br.frozen 4
                  have b0 := hks'.br.cell 0
                  have b1 := hks'.br.cell 1
                  have b2 := hks'.br.cell 2
                  have b3 := hks'.br.cell 3
                  have b4 := hks'.br.cell 4
                  simp only [List.getElem?_toArray, List.getElem?_cons_zero, List.getElem?_cons_succ] at b0 b1 b2 b3 b4
                  have lr : w.heap.size + 1 + 1 < wr.heap.size := hks'.br.lt
                  clear hks hks' hws hws' hlt hk
                  go_wp2
                  obtain ⟨WF, hWF⟩ : ∃ W, W = ((((wr.setCell ⟨w.heap.size + 1 + 1, 0, none⟩ (.slice sa' (keepL (sP S) g.sorts).length sc')).setCell ⟨w.heap.size + 1 + 1, 1, none⟩ (.slice pa' ps.length pc')).setCell ⟨w.heap.size + 1 + 1, 2, none⟩ (.int .i64 st)).setCell ⟨w.heap.size + 1 + 1, 3, none⟩ (.slice fa' fs.length fc')).setCell ⟨w.heap.size + 1 + 1, 4, none⟩ (.slice wa' ws.length wc') := ⟨_, rfl⟩
                  rw [← hWF]
                  obtain ⟨hbF, hBF, hGF, hNF⟩ := HKS.out.fin hWF
                  have q0 := hbF.cell 0
                  have q1 := hbF.cell 1
                  have q2 := hbF.cell 2
                  have q3 := hbF.cell 3
                  have q4 := hbF.cell 4
                  simp only [List.getElem?_toArray, List.getElem?_cons_zero, List.getElem?_cons_succ] at q0 q1 q2 q3 q4
                  refine bodyPost_ret (v := .agg #[.slice sa' (keepL (sP S) g.sorts).length sc', .slice pa' ps.length pc', .int .i64 st, .slice fa' fs.length fc', .slice wa' ws.length wc']) (by simp [results, Try.results53, go_sem, q0, q1, q2, q3, q4]) rfl
                    ⟨⟨sa', sc', keepL (sP S) g.sorts, pa', pc', ps, st, fa', fc', fs, wa', wc', ws⟩, rfl, ⟨rfl, HPlI.out, HPS.out, HFS.out, HWS.out⟩, hGF, hNF, hBF⟩
end Go.Proofs.Ytiihdbchchnncaa
end
