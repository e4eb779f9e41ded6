import Derived.Test.YtiihdbchchnncaaP6
namespace Go.Proofs.Ytiihdbchchnncaa
open Go Go.RowKit

/-- The numbers of a sort's productions. -/
def ofK (l : List ProdM) (n : Int) : List Int := (l.zipIdx.filter fun p => p.1.left == n).map fun p => (p.2 : Int)
theorem ofK_snoc (l : List ProdM) (x : ProdM) (n : Int) : ofK (l ++ [x]) n = ofK l n ++ if x.left == n then [(l.length : Int)] else [] := by
  unfold ofK
  rw [List.zipIdx_append, List.filter_append, List.map_append]
  congr 1
  simp only [List.zipIdx_cons, List.zipIdx_nil, List.filter_cons, List.filter_nil]
  split <;> simp
theorem ofK_len (l : List ProdM) (n : Int) : (ofK l n).length ≤ l.length := by
  unfold ofK
  rw [List.length_map]
  exact Nat.le_trans (List.length_filter_le _ _) (by simp)
/-- Of's answer. -/
def OfP (g : GramM) (n : Int) (e : Ending) (w' : World) : Prop :=
  if checkB g then (if numB n g.sorts.length then ∃ a c, e = .returned (.tuple #[.slice a (ofK g.prods n).length c, .int .i64 0]) ∧ RowInt w' a (ofK g.prods n) else e = .returned (.tuple #[.slice none 0 0, .int .i64 4])) else e = .returned (.tuple #[.slice none 0 0, .int .i64 160])

set_option maxRecDepth 100000 in
set_option maxHeartbeats 2000000 in
theorem of_any (g : GramM) (n : Int) (w : World) (hg : GIn w g) (hf : FitG g) : Calls Try.prog 17 #[gramV g, .int .i64 n] w fun e w' => OfP g n e w' ∧ Below w.heap.size w w' := by
  have hB1 : Below w.heap.size w (w.alloc (.cells (gramC g) 27)) := (Below.refl _ _).alloc (Nat.le_refl _) _
  have HCk := Lib.hid (check_any g _ (hg.below hB1) hf)
  have HN := fun w' => Lib.hid (num_any n g.sorts.length w')
  have HG := Lib.hid hg
  have HB := Lib.hid hB1
  have HK := Lib.hid (Blk.new w 27 (gramC g))
  have hnp := hf.fit.prods
  obtain ⟨i0, hi, hz0, hz1, hz2⟩ := info_parts Try.info3
  have HP0 : Hid (∀ w', checkB g = false → OfP g n (.returned (.tuple #[.slice none 0 0, .int .i64 160])) w') := Lib.hid (fun w' h => by unfold OfP; rw [h]; rfl)
  have HP1 : Hid (∀ w', checkB g = true → numB n g.sorts.length = false → OfP g n (.returned (.tuple #[.slice none 0 0, .int .i64 4])) w') := Lib.hid (fun w' h h2 => by unfold OfP; rw [h, h2]; rfl)
  have HP2 : Hid (∀ w' a c, checkB g = true → numB n g.sorts.length = true → RowInt w' a (ofK g.prods n) → OfP g n (.returned (.tuple #[.slice a (ofK g.prods n).length c, .int .i64 0])) w') := Lib.hid (fun w' a c h h2 h3 => by unfold OfP; rw [h, h2]; exact ⟨a, c, rfl, h3⟩)
  clear hg hf hB1
  have hl0 := HK.out.lt
  unfold gramV at *
  obtain ⟨pa, hpa⟩ : ∃ p, p = g.pa := ⟨_, rfl⟩
  have HRow := Lib.hid HG.out.prods
  unfold gramC at *
  rw [← hpa] at HRow HCk HB HK hl0 ⊢
  clear hpa HG
  generalize numB n g.sorts.length = rn at *
  generalize OfP g n = O at *
  cases hq : checkB g with
  | false =>
    rw [hq] at HCk
    have HF := Lib.hid (fun w' => HP0.out w' hq)
    clear hq HP1 HP2 HP0 hnp
    have he : errI false = 160 := rfl
    rw [he] at HCk
    clear he
    go_enter Try.func17, Try.ntmps17
    go_wp2_with fail
    refine HCk.out.mono ?_
    rintro e w3 ⟨rfl, hB3⟩
    have HF3 := Lib.hid (show _ ∧ Below w.heap.size w w3 from ⟨HF.out w3, HB.out.trans (hB3.mono HB.out.size)⟩)
    clear hB3
    go_wp2
    go_ret2
    exact HF3.out
  | true =>
    rw [hq] at HCk
    have he : errI true = 0 := rfl
    rw [he] at HCk
    clear he
    cases rn with
    | false =>
      have HF := Lib.hid (fun w' => HP1.out w' hq rfl)
      clear hq HP1 HP2 HP0 hnp
      go_enter Try.func17, Try.ntmps17
      go_wp2_with fail
      refine HCk.out.mono ?_
      rintro e w3 ⟨rfl, hB3⟩
      have HF3 := Lib.hid (show _ ∧ Below w.heap.size w w3 from ⟨HF.out w3, HB.out.trans (hB3.mono HB.out.size)⟩)
      have HK3 := HK.out.below hB3 HK.out.lt
      have c0 := HK3.cell 0
      have l3 := HK3.lt
      simp only [List.getElem?_toArray, List.getElem?_cons_zero] at c0
      clear hB3 HK3
      go_wp2_with (go_at_call 42; (with_reducible refine (HN _).out.mono ?_); rintro e w5 ⟨rfl, rfl⟩)
      go_ret2
      exact HF3.out
    | true =>
      have HF := Lib.hid (fun w' a c h => HP2.out w' a c hq rfl h)
      clear hq HP1 HP2 HP0
      go_enter Try.func17, Try.ntmps17
      go_wp2_with fail
      refine HCk.out.mono ?_
      rintro e w3 ⟨rfl, hB3⟩
      have HB3 := Lib.hid (HB.out.trans (hB3.mono HB.out.size))
      have HK3 := Lib.hid (HK.out.below hB3 HK.out.lt)
      have c0 := HK3.out.cell 0
      have c1 := HK3.out.cell 1
      have l3 := HK3.out.lt
      simp only [List.getElem?_toArray, List.getElem?_cons_zero, List.getElem?_cons_succ] at c0 c1
      have hl3 : w.heap.size + 1 ≤ w3.heap.size := HK3.out.lt
      clear hB3
      go_wp2_with (go_at_call 42; (with_reducible refine (HN _).out.mono ?_); rintro e w5 ⟨rfl, rfl⟩)
      go_loopw [7, 24] (fun v i wr => ∃ (k : Nat), i = .int .i64 k ∧ k ≤ g.prods.length ∧ Hid (wr.ownsRow w3.heap.size 3 1 v (ofK (g.prods.take k) n).length (cellsL intC (ofK (g.prods.take k) n))) ∧ Hid (Below w3.heap.size w3 wr))
        (fun _ i _ => g.prods.length - (intOf i).toNat)
      case atStart => exact ⟨0, rfl, Nat.zero_le _, Lib.hid (World.ownsRow_nil _ _ _ _), Below.refl _ _⟩
      case round =>
        obtain ⟨k, rfl, hk, hO, hB⟩ := hrel
        have hszr := hB.out.size
        by_cases hlt : k < g.prods.length
        · obtain ⟨x, hx⟩ : ∃ x, g.prods[k]? = some x := ⟨_, List.getElem?_eq_getElem hlt⟩
          have HT := Lib.hid (take_snoc g.prods k x hx)
          obtain ⟨b, off, rfl, hbw, hc, ht⟩ := HRow.out k x hx
          clear ht
          have hc := hc.below (HB3.out.trans (hB.out.mono HB3.out.size)) hbw
          have hbr := Nat.lt_of_lt_of_le hbw (HB3.out.trans (hB.out.mono HB3.out.size)).size
          obtain ⟨p0, p1, p2, p3, p4, p5, p6⟩ := Prod_at hc
          have n1 : (k : Int) < (g.prods.length : Int) := by omega
          have hlen : (g.prods.take k).length = k := by rw [List.length_take]; omega
          have HS := Lib.hid (ofK_snoc (g.prods.take k) x n)
          have hol := ofK_len (g.prods.take k) n
          rw [hlen] at hol
          have HOf : Hid (ofK (g.prods.take (k + 1)) n = ofK (g.prods.take k) n ++ if x.left == n then [(k : Int)] else []) := Lib.hid (by rw [HT.out, HS.out, hlen])
          have HBx := Lib.hid (hB.out.alloc hszr (.cells (prodC x) 46))
          have HOx := Lib.hid (hO.out.alloc (.cells (prodC x) 46))
          clear hc hx HT HS hlen
          obtain ⟨left, ra, rc, right, cons, role, prefer, avoid, frm⟩ := x
          unfold prodC at *
          dsimp only at *
          obtain ⟨O2, hO2⟩ : ∃ O, O = ofK (g.prods.take (k + 1)) n := ⟨_, rfl⟩
          rw [← hO2] at HOf
          have HQ := Lib.hid hO2
          clear hO2
          generalize ofK (g.prods.take k) n = O1 at *
          by_cases h1 : left = n
          · subst h1
            have HO2 : Hid (O2 = O1 ++ [(k : Int)]) := Lib.hid (by rw [HOf.out]; simp)
            have HCN := cells_new (wr.alloc (.cells #[.int .i64 left, .slice ra right.length rc, .string cons, .int .i64 role, .bool prefer, .bool avoid, .int .i64 frm] 46)) #[.int .i64 k] 3
            rw [World.size_alloc] at HCN
            have HCN := Lib.hid HCN
            have hol2 : O1.length + 1 ≤ 1048577 := by omega
            clear HOf
            go_wp2_with (first
              | (at_builtin; refine wpList_append_own _ rfl (.tmp 33) (.tmp 35) 40 rfl w3.heap.size 3 i0 (.int .i64 0) 1 8 Try.underlying40 hi hz0 hz1 hz2 rfl (by decide) _ _ _ rfl (HOx.out.alloc _) ⟨wr.heap.size + 1, 0, none⟩ 1 1 [.int .i64 k] rfl rfl HCN.out (by simp [Value.oneCell']) (by unfold maxLen; omega) (by omega) (by simp; omega) ?_; intro v5 w5 hown5 hgrow5 _))
            have hf5 := own_fin (HOx.out.alloc _) (((Below.refl w3.heap.size wr).alloc hszr _).alloc (by simp; omega) _) hszr hgrow5
            have hO5 : Hid (w5.ownsRow w3.heap.size 3 1 v5 O2.length (cellsL intC O2)) := Lib.hid (by
              rw [HO2.out, cellsL_snoc, List.length_append]; exact hown5)
            have hB5 := Lib.hid (hB.out.trans hf5)
            clear hf5 hown5 hgrow5 hO hB HBx HOx
            go_wp2
            go_roundw
            case rel => exact ⟨k + 1, by go_num, by omega, by rw [← HQ.out]; exact hO5, hB5⟩
            case measure => simp [intOf]; omega
          · have e1 : (left == n) = false := by simpa using h1
            have HO2 : Hid ((wr.alloc (.cells #[.int .i64 left, .slice ra right.length rc, .string cons, .int .i64 role, .bool prefer, .bool avoid, .int .i64 frm] 46)).ownsRow w3.heap.size 3 1 u7 (ofK (g.prods.take (k + 1)) n).length (cellsL intC (ofK (g.prods.take (k + 1)) n))) := Lib.hid (by
              rw [← HQ.out, HOf.out, e1]
              simpa using HOx.out)
            clear HOf h1 HOx hO hB
            go_wp2
            go_roundw
            case rel => exact ⟨k + 1, by go_num, by omega, HO2, HBx⟩
            case measure => simp [intOf]; omega
        · obtain rfl : k = g.prods.length := by omega
          have hO2 := hO.out
          rw [List.take_length] at hO2
          obtain ⟨va, vc, rfl, hrow⟩ := own_row (cs := intC) (G := NoG) (fun _ => rfl) hO2 (fun _ _ => trivial)
          have HFin := Lib.hid (show _ ∧ Below w.heap.size w wr from ⟨HF.out wr va vc hrow, HB3.out.trans (hB.out.mono HB3.out.size)⟩)
          clear hO hO2 hrow hB
          generalize (ofK g.prods n).length = m at *
          go_wp2
          go_ret2
          exact HFin.out
end Go.Proofs.Ytiihdbchchnncaa
