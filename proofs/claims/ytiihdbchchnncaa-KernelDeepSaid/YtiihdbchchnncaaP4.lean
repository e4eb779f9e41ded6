import Derived.Test.YtiihdbchchnncaaP3
namespace Go.Proofs.Ytiihdbchchnncaa
open Go Go.RowKit

theorem Done.mono {g : GramM} {L : List Bool} {j : Nat} {l : List ProdM} {M M' : List Bool} (h : Done g L j l M) (hM : ∀ k : Nat, M[k]? = some true → M'[k]? = some true) : Done g L j l M' :=
  fun x hx hl hs s hsx hk => hM _ (h x hx hl hs s hsx hk)
theorem Done.snoc {g : GramM} {L : List Bool} {j : Nat} {l : List ProdM} {M : List Bool} {x : ProdM} (h : Done g L j l M) (hx : x.left = j → sortsB (lv L) x = true → ∀ s, s ∈ x.right → s.kind = 1 → M[s.sort.toNat]? = some true) : Done g L j (l ++ [x]) M := by
  intro y hy hl hs s hsx hk
  rcases List.mem_append.1 hy with hy | hy
  · exact h y hy hl hs s hsx hk
  · simp at hy; subst hy; exact hx hl hs s hsx hk
theorem lv_false {M : List Bool} {j : Nat} (hj : j < M.length) (h : lv M j = false) : M[j]? = some false := by
  have e : M[j]? = some (M[j]) := List.getElem?_eq_getElem hj
  rw [e]
  unfold lv at h
  rw [List.getD_eq_getElem?_getD, Int.toNat_natCast, e] at h
  simpa using h

set_option maxRecDepth 100000 in
set_option maxHeartbeats 2000000 in
theorem visit_any (g : GramM) (hm : MayB g) (L : List Bool) (hL : L.length = g.sorts.length) (w0 : World) (hg : GIn w0 g) (aL : Option Addr) (cL Bg Bl Q Bm Bv : Nat) (hlive : RowBool w0 aL L) (hk : VK w0 Bg Bl Q Bm Bv) :
    ∀ (n : Nat) (M : List Bool) (j : Nat) (w : World), M.count false ≤ n → j < g.sorts.length → VI g L w0 aL cL Bg Bl Q Bm Bv M w →
      Calls Try.prog 56 #[.int .i64 j, .pointer (some ⟨Bm, 0, none⟩), .pointer (some ⟨Bg, 0, none⟩), .pointer (some ⟨Bl, 0, none⟩), .pointer (some ⟨Bv, 0, none⟩)] w fun e w' =>
        e = .returned (.tuple #[]) ∧ ∃ M', VI g L w0 aL cL Bg Bl Q Bm Bv M' w' ∧ Grew g L j M M' ∧ w.grownBy w' (some Q) := by
  intro n
  induction n with
  | zero =>
    intro M j w hn hj hI
    have hjl : j < M.length := by rw [hI.len]; exact hj
    have hM : M[j]? = some true := by
      have e : M[j]? = some (M[j]) := List.getElem?_eq_getElem hjl
      cases h : M[j] with
      | true => rw [e, h]
      | false =>
        have : false ∈ M := by rw [← h]; exact List.getElem_mem _
        have := List.count_pos_iff.2 this
        omega
    have HF : Hid (∃ M', VI g L w0 aL cL Bg Bl Q Bm Bv M' w ∧ Grew g L j M M' ∧ w.grownBy w (some Q)) := Lib.hid ⟨M, hI, grew_self hM, World.grownBy.refl _ _⟩
    have c0 := hI.bm.cell 0
    simp only [List.getElem?_toArray, List.getElem?_cons_zero] at c0
    have c1 := (hI.q.cell j).trans (bools_at M j hjl)
    rw [lv_some (i := (j : Int)) (by rw [Int.toNat_natCast]; exact hM)] at c1
    have l0 := hI.bm.lt
    have l1 := hI.q.lt
    have hj2 : (j : Int) < (g.sorts.length : Int) := by omega
    clear hn hI hM hjl hlive hg hm hL hj
    generalize g.sorts.length = ns at *
    go_enter Try.func56, Try.ntmps56
    go_wp2
    first | go_end0 | refine bodyPost_ret (results_none rfl _ _ _) rfl ?_
    exact ⟨rfl, HF.out⟩
  | succ n ih =>
    intro M j w hn hj hI
    have hjl : j < M.length := by rw [hI.len]; exact hj
    have c0 := hI.bm.cell 0
    simp only [List.getElem?_toArray, List.getElem?_cons_zero] at c0
    have c1 := (hI.q.cell j).trans (bools_at M j hjl)
    have l0 := hI.bm.lt
    have l1 := hI.q.lt
    have hj2 : (j : Int) < (g.sorts.length : Int) := by omega
    cases hv : lv M j with
    | true =>
      have HF : Hid (∃ M', VI g L w0 aL cL Bg Bl Q Bm Bv M' w ∧ Grew g L j M M' ∧ w.grownBy w (some Q)) := Lib.hid ⟨M, hI, grew_self (by have := lv_true hv; rwa [Int.toNat_natCast] at this), World.grownBy.refl _ _⟩
      rw [hv] at c1
      clear hn hI hjl hlive hg hm hL hj ih hv
      generalize g.sorts.length = ns at *
      go_enter Try.func56, Try.ntmps56
      go_wp2
      first | go_end0 | refine bodyPost_ret (results_none rfl _ _ _) rfl ?_
      exact ⟨rfl, HF.out⟩
    | false =>
      rw [hv] at c1
      have hfr := hI.q.frozen j
      have HM := Lib.hid hm
      have HG := Lib.hid hg
      have HLv := Lib.hid hlive
      have HL := Lib.hid hL
      have HK := Lib.hid hk
      have hI1 : VI g L w0 aL cL Bg Bl Q Bm Bv (M.set j true) (w.setCell ⟨Q, j, none⟩ (.bool true)) :=
        hI.grown hk (grown_set w Q j _) (by rw [← bools_set]; exact hI.q.set j _) (by rw [List.length_set])
      have HI1 := Lib.hid hI1
      have HG1 : Hid (w.grownBy (w.setCell ⟨Q, j, none⟩ (.bool true)) (some Q)) := Lib.hid (grown_set w Q j _)
      have g1 := hI1.bg.gram.2.1
      have hl0 := hI1.bg.lt
      have HIH := Lib.hid ih
      have HC1 : Hid ((M.set j true).count false ≤ n) := Lib.hid (by have := count_set (lv_false hjl hv); omega)
      have HJ : Hid (j < M.length) := Lib.hid hjl
      have HJ2 := Lib.hid hj
      obtain ⟨pa, hpa⟩ : ∃ p, p = g.pa := ⟨_, rfl⟩
      have HRow := Lib.hid hg.prods
      rw [← hpa] at HRow g1
      have HPA := Lib.hid hpa
      obtain ⟨M1, hM1⟩ : ∃ M1, M1 = M.set j true := ⟨_, rfl⟩
      rw [← hM1] at HI1 HC1
      have HM1 := Lib.hid hM1
      have hnp := hm.prods
      clear hn hI hI1 hjl hlive hg hm hL hj ih hv hpa hM1 hk
      go_enter Try.func56, Try.ntmps56
      go_wp2
      go_loopw [20] (fun i wr => ∃ (k : Nat) (Mk : List Bool), i = .int .i64 k ∧ k ≤ g.prods.length ∧ Hid (VI g L w0 aL cL Bg Bl Q Bm Bv Mk wr) ∧ Hid (Mid g L j M1 Mk) ∧ Hid (Done g L j (g.prods.take k) Mk) ∧ Hid (w.grownBy wr (some Q)))
        (fun i _ => g.prods.length - (intOf i).toNat)
      case atStart => exact ⟨0, M1, rfl, Nat.zero_le _, HI1, Lib.hid (Mid.refl _ _ _ _), Lib.hid (fun x h => by simp at h), HG1⟩
      case round =>
        clear HI1 HG1 g1 hl0 c0 c1 l0 l1 hfr
        obtain ⟨k, Mk, rfl, hkl, hI, hMid, hD, hGr⟩ := hrel
        by_cases hlt : k < g.prods.length
        · obtain ⟨x, hx⟩ : ∃ x, g.prods[k]? = some x := ⟨_, List.getElem?_eq_getElem hlt⟩
          have HX := Lib.hid (List.mem_of_getElem? hx)
          have HT := Lib.hid (take_snoc g.prods k x hx)
          obtain ⟨b, off, rfl, hbw, hc, hpi⟩ := HRow.out k x hx
          have hc := hc.below hI.out.b hbw
          have HPi := Lib.hid hpi
          have hpi := hpi.below hI.out.b
          have hbr := Nat.lt_of_lt_of_le hbw hI.out.b.size
          obtain ⟨c0, c1, c2, c3, c4, c5, c6⟩ := Prod_at hc
          have n1 : (k : Int) < (g.prods.length : Int) := by omega
          have HBx : Hid (Below wr.heap.size wr (wr.alloc (.cells (prodC x) 46))) := Lib.hid ((Below.refl _ _).alloc (Nat.le_refl _) _)
          have HI1 := Lib.hid (hI.out.below HK.out HBx.out)
          have HG1 := Lib.hid (grown_trans hGr.out (grown_of_below HBx.out (some Q)))
          have l3 := hI.out.bl.lt
          have HE := Lib.hid (eachSort_any x (lv L) 57 #[.pointer (some ⟨Bl, 0, none⟩)] (fun _ _ => by kernel_rfl) _ (hpi.below HBx.out) (by have := HM.out.right x HX.out; omega) (fun s hs hk W hW => by
            obtain ⟨t, ht, htn⟩ := HM.out.sym x HX.out s hs hk
            rw [ht]
            have hIW := HI1.out.below HK.out hW
            exact f57_any L Bl aL cL t (by rw [HL.out]; exact htn) (by rw [HL.out]; exact HM.out.sorts2) W hIW.bl (HLv.out.belowN hIW.b)))
          have HDs : Hid (x.left ≠ j ∨ sortsB (lv L) x = false → Done g L j (g.prods.take (k + 1)) Mk) := Lib.hid (fun h => by
            rw [HT.out]
            refine hD.out.snoc (fun h1 h2 => ?_)
            rcases h with h | h
            · exact absurd h1 h
            · rw [h] at h2; cases h2)
          have HEd : Hid (x.left = j → sortsB (lv L) x = true → ∀ s, s ∈ x.right → s.kind = 1 → ∃ t : Nat, s.sort = t ∧ t < g.sorts.length ∧ Edge g L j t) := Lib.hid (fun h1 h2 s hs hk1 => by
            obtain ⟨t, ht, htn⟩ := HM.out.sym x HX.out s hs hk1
            exact ⟨t, ht, htn, x, HX.out, h1, h2, s, hs, hk1, ht⟩)
          have HDn : Hid (∀ M', (∀ s, s ∈ x.right → s.kind = 1 → M'[s.sort.toNat]? = some true) → Done g L j (g.prods.take k) M' → Done g L j (g.prods.take (k + 1)) M') := Lib.hid (fun M' h1 h2 => by
            rw [HT.out]
            exact h2.snoc (fun _ _ => h1))
          have hrl := HM.out.right x HX.out
          clear hc hpi hbw hx HX HT
          unfold ProdIn at HPi
          obtain ⟨left, ra, rc, right, cons, role, prefer, avoid, frm⟩ := x
          unfold prodV prodC at *
          dsimp only at *
          by_cases hlj : left = (j : Int)
          · subst hlj
            generalize sortsB (lv L) _ = r at *
            cases r with
            | false =>
              have HD2 := Lib.hid (HDs.out (.inr rfl))
              clear HDs HEd HDn HPi
              go_wp2_with fail
              with_reducible refine HE.out.mono ?_
              rintro e w3 ⟨rfl, hB3⟩
              have HI3 := Lib.hid (HI1.out.below HK.out hB3)
              have HG3 := Lib.hid (grown_trans HG1.out (grown_of_below hB3 (some Q)))
              clear hB3 c0 c1 c2 c3 c4 c5 c6
              go_wp2
              go_roundw
              case rel => exact ⟨k + 1, Mk, by go_num, by omega, HI3, hMid, HD2, HG3⟩
              case measure => simp [intOf]; omega
            | true =>
              have HEd2 := Lib.hid (HEd.out rfl rfl)
              clear HDs HEd
              go_wp2_with fail
              with_reducible refine HE.out.mono ?_
              rintro e w3 ⟨rfl, hB3⟩
              have HI3 := Lib.hid (HI1.out.below HK.out hB3)
              have HG3 := Lib.hid (grown_trans HG1.out (grown_of_below hB3 (some Q)))
              have hbx := (Blk.new wr 46 #[.int .i64 (j : Int), .slice ra right.length rc, .string cons, .int .i64 role, .bool prefer, .bool avoid, .int .i64 frm]).below hB3 (by simp)
              have x1 := hbx.cell 1
              simp only [List.getElem?_toArray, List.getElem?_cons_zero, List.getElem?_cons_succ] at x1
              have lx := hbx.lt
              clear hB3 c0 c1 c2 c3 c4 c5 c6 hbx HI1 HG1 hI hGr
              go_wp2
              obtain ⟨wo, rfl⟩ : ∃ wo : World, wo = wr := ⟨_, rfl⟩
              go_loopw [37] (fun i wr => ∃ (q : Nat) (Mi : List Bool), i = .int .i64 q ∧ q ≤ right.length ∧ Hid (VI g L w0 aL cL Bg Bl Q Bm Bv Mi wr) ∧ Hid (Mid g L j M1 Mi) ∧ Hid (∀ s, s ∈ right.take q → s.kind = 1 → Mi[s.sort.toNat]? = some true)
                  ∧ Hid (Done g L j (g.prods.take k) Mi) ∧ Hid (w.grownBy wr (some Q)))
                (fun i _ => right.length - (intOf i).toNat)
              case atStart => exact ⟨0, Mk, rfl, Nat.zero_le _, HI3, hMid, Lib.hid (fun s h => by simp at h), hD, HG3⟩
              case round =>
                clear HI3 HG3 hMid hD x1 lx hbr hlt
                obtain ⟨q, Mi, rfl, hq, hI, hMid, hS, hD, hGr⟩ := hrel
                by_cases hlt : q < right.length
                · obtain ⟨s, hs⟩ : ∃ s, right[q]? = some s := ⟨_, List.getElem?_eq_getElem hlt⟩
                  have HX := Lib.hid (List.mem_of_getElem? hs)
                  have HT := Lib.hid (take_snoc right q s hs)
                  obtain ⟨b', off', rfl, hbw, hc, ht⟩ := (RowOf.belowN HPi.out hI.out.b) q s hs
                  clear ht
                  obtain ⟨c0, c1, c2, c3, c4, c5⟩ := Sym_at hc
                  have n2 : (q : Int) < (right.length : Int) := by omega
                  have HBx : Hid (Below wr.heap.size wr (wr.alloc (.cells (symC s) 68))) := Lib.hid ((Below.refl _ _).alloc (Nat.le_refl _) _)
                  have HI1 := Lib.hid (hI.out.below HK.out HBx.out)
                  have HG1 := Lib.hid (grown_trans hGr.out (grown_of_below HBx.out (some Q)))
                  have HS1 : Hid (∀ M' : List Bool, (∀ k : Nat, Mi[k]? = some true → M'[k]? = some true) → (s.kind = 1 → M'[s.sort.toNat]? = some true) → ∀ s, s ∈ right.take (q + 1) → s.kind = 1 → M'[s.sort.toNat]? = some true) := Lib.hid (fun M' h1 h2 y hy hy1 => by
                    rw [HT.out] at hy
                    rcases List.mem_append.1 hy with hy | hy
                    · exact h1 _ (hS.out y hy hy1)
                    · simp at hy; subst hy; exact h2 hy1)
                  have HEq : Hid (s.kind = 1 → ∃ t : Nat, s.sort = t ∧ t < g.sorts.length ∧ Edge g L j t) := Lib.hid (fun h => HEd2.out s HX.out h)
                  clear hc hs HX HT hS
                  obtain ⟨sk, ss, so⟩ := s
                  unfold symC at *
                  dsimp only at *
                  by_cases h1 : sk = 1
                  · subst h1
                    obtain ⟨t, rfl, htn, hed⟩ := HEq.out rfl
                    have v0 := HI1.out.bv.cell 0
                    simp only [List.getElem?_toArray, List.getElem?_cons_zero] at v0
                    have lv0 := HI1.out.bv.lt
                    have HCall := Lib.hid (HIH.out Mi t _ (Nat.le_trans (count_le hMid.out.len hMid.out.le) HC1.out) htn HI1.out)
                    have HEt := Lib.hid hed
                    clear HEq htn hed
                    go_wp2_with fail
                    with_reducible refine HCall.out.mono ?_
                    rintro e w4 ⟨rfl, M4, hI4, hgr4, hG4⟩
                    have HI4 := Lib.hid hI4
                    have HMid4 := Lib.hid (hMid.out.call HEt.out hgr4)
                    have HS4 := Lib.hid (HS1.out M4 hgr4.1.le (fun _ => by rw [Int.toNat_natCast]; exact hgr4.2))
                    have HD4 := Lib.hid (hD.out.mono hgr4.1.le)
                    have HG4 := Lib.hid (grown_trans HG1.out hG4)
                    clear hI4 hgr4 hG4 v0 lv0 c0 c1 c2 c3 c4 c5 HCall HI1 HG1 HS1 hI hMid hD hGr
                    go_wp2
                    go_roundw
                    case rel => exact ⟨q + 1, M4, by go_num, by omega, HI4, HMid4, HS4, HD4, HG4⟩
                    case measure => simp [intOf]; omega
                  · have e1 : (sk == 1) = false := by simpa using h1
                    have HS2 := Lib.hid (HS1.out Mi (fun _ h => h) (fun h => absurd h h1))
                    clear HS1 HEq h1
                    go_wp2
                    go_roundw
                    case rel => exact ⟨q + 1, Mi, by go_num, by omega, HI1, hMid, HS2, hD, HG1⟩
                    case measure => simp [intOf]; omega
                · obtain rfl : q = right.length := by omega
                  have hS2 := hS.out
                  rw [List.take_length] at hS2
                  have HD2 := Lib.hid (HDn.out Mi hS2 hD.out)
                  clear hS hS2 hD HEd2 HDn HPi
                  go_wp2
                  go_roundw
                  case rel => exact ⟨k + 1, Mi, by go_num, by omega, hI, hMid, HD2, hGr⟩
                  case measure => simp [intOf]; omega
          · have e1 : (left == (j : Int)) = false := by simpa using hlj
            have e2 : (left != (j : Int)) = true := by simpa using hlj
            have HD2 := Lib.hid (HDs.out (.inl hlj))
            clear HDs HEd HDn HPi HE hlj e1
            go_wp2
            go_roundw
            case rel => exact ⟨k + 1, Mk, by go_num, by omega, HI1, hMid, HD2, HG1⟩
            case measure => simp [intOf]; omega
        · obtain rfl : k = g.prods.length := by omega
          have hD2 := hD.out
          rw [List.take_length] at hD2
          have hMid2 := hMid.out
          rw [HM1.out] at hMid2
          have HF : Hid (∃ M', VI g L w0 aL cL Bg Bl Q Bm Bv M' wr ∧ Grew g L j M M' ∧ w.grownBy wr (some Q)) := Lib.hid ⟨Mk, hI.out, grew_of HJ.out hMid2 hD2, hGr.out⟩
          clear hD hD2 hMid hMid2 hI hGr
          go_wp2
          first | go_end0 | refine bodyPost_ret (results_none rfl _ _ _) rfl ?_
          exact ⟨rfl, HF.out⟩
end Go.Proofs.Ytiihdbchchnncaa
