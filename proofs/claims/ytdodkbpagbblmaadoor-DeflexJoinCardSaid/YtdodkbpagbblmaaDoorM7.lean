import Derived.BigQuiet
import Derived.Test.YtdodkbpagbblmaaDoorM6
section
namespace Go.Proofs.YtdodkbpagbblmaaDoor
open Go Go.RowKit

theorem lexAt_bounds : ∀ (n : Nat) (l : List UInt8), l.length ≤ n → ∀ k, (lexAt l k).1.length ≤ l.length ∧ (∀ p ∈ (lexAt l k).1, p.2 ≤ k + l.length) ∧ ∀ q, (lexAt l k).2 = some q → q ≤ k + l.length := by
  intro n
  induction n with
  | zero =>
    intro l h k
    have : l = [] := List.length_eq_zero_iff.1 (by omega)
    subst this
    rw [lexAt_end [] _ rfl]
    simp
  | succ n ih =>
    intro l h k
    have hle := skipL_le l
    by_cases he : l.drop (skipL l) = []
    · rw [lexAt_end l _ he]; simp
    · cases hn : nextW (l.drop (skipL l)) with
      | none =>
        rw [lexAt_bad l _ he hn]
        simp
        omega
      | some p =>
        have hp := nextW_len _ p hn
        have hl2 : ((l.drop (skipL l)).drop p.2).length + p.2 + skipL l = l.length := by
          rw [List.length_drop] at hp ⊢
          rw [List.length_drop]
          omega
        obtain ⟨i1, i2, i3⟩ := ih ((l.drop (skipL l)).drop p.2) (by omega) (k + skipL l + p.2)
        rw [lexAt_step l _ p he hn]
        refine ⟨by simp only [List.length_cons]; omega, ?_, fun q hq => ?_⟩
        · intro x hx
          rcases List.mem_cons.1 hx with rfl | hx
          · simp only; omega
          · have := i2 x hx; omega
        · have := i3 q hq; omega

theorem lex_some (t : ByteArray) (ht : t.size ≤ 1048576) (w : World) (hG : GlobD w) :
    Calls Tryd.prog 7 #[.string t] w fun e w' => ∃ (v : Value) (a n : Int), e = .returned (.tuple #[v, .int .i64 a, .int .i64 n]) ∧ Below w.heap.size w w' := by
  refine (lex_any t w hG).mono ?_
  rintro e w' ⟨hB, h1 | h1 | h1⟩
  · omega
  · obtain ⟨_, b, _, he⟩ := h1
    exact ⟨_, _, _, he, hB⟩
  · obtain ⟨_, _, v, he, _⟩ := h1
    exact ⟨_, _, _, he, hB⟩
theorem own_rowWn {w : World} {n₀ n : Nat} {v : Value} {ws : List (Wd × Nat)} (h : w.ownsRow n₀ 38 8 v ws.length (cellsW ws)) (hn : ws.length = n) : ∃ a cap, v = .slice a n cap ∧ RowW w a (withI ws) := by
  subst hn
  exact own_rowW h

theorem joinT (a b : ByteArray) : (a ++ ⟨#[10]⟩ ++ b).data.toList = a.data.toList ++ 10 :: b.data.toList ∧ (a ++ ⟨#[10]⟩ ++ b).size = a.size + 1 + b.size := by
  have h : (a ++ ⟨#[10]⟩ ++ b).data.toList = a.data.toList ++ 10 :: b.data.toList := by simp [ByteArray.data_append]
  refine ⟨h, ?_⟩
  rw [Lib.size_eq, h, Lib.size_eq, Lib.size_eq]
  simp
  omega

set_option maxRecDepth 100000 in
set_option maxHeartbeats 4000000 in
theorem lawJoin_long (a b : ByteArray) (w : World) (hG : GlobD w) (h : 2500 < a.size ∨ 2500 < b.size) :
    Calls Tryd.prog 6 #[.string a, .string b] w fun e w' => e = .returned (.bool true) ∧ Below w.heap.size w w' := by
  have HW := Lib.hid (works_any w hG)
  clear hG
  by_cases h1 : 2500 < a.size
  · have n1 : (2500 : Int) < (a.size : Int) := by omega
    clear h
    go_enter Tryd.func6, Tryd.ntmps6
    go_wp2_with (go_at_call 11; refine HW.out.mono ?_; rintro e w1 ⟨rfl, hB⟩)
    go_ret
    exact ⟨rfl, hB⟩
  · have h2 : 2500 < b.size := h.resolve_left h1
    have n1 : ¬ (2500 : Int) < (a.size : Int) := by omega
    have n2 : (2500 : Int) < (b.size : Int) := by omega
    clear h
    go_enter Tryd.func6, Tryd.ntmps6
    go_wp2_with (go_at_call 11; refine HW.out.mono ?_; rintro e w1 ⟨rfl, hB⟩)
    go_ret
    exact ⟨rfl, hB⟩

set_option maxRecDepth 100000 in
set_option maxHeartbeats 4000000 in
theorem lawJoin_bad1 (a b : ByteArray) (w : World) (hG : GlobD w) (ha : a.size ≤ 2500) (hb : b.size ≤ 2500) (p : Nat) (hp : (lexAt a.data.toList 0).2 = some p) :
    Calls Tryd.prog 6 #[.string a, .string b] w fun e w' => e = .returned (.bool true) ∧ Below w.heap.size w w' := by
  obtain ⟨j1, j2⟩ := joinT a b
  have hj : (lexAt (a ++ ⟨#[10]⟩ ++ b).data.toList 0).2 = some p := by rw [j1, lexAt_join, hp]
  have H1 := Lib.hid (lex_bad a p hp (by omega) w hG)
  have H2 := Lib.hid (fun W hW => lex_some b (by omega) W hW)
  have H3 := Lib.hid (fun W hW => lex_bad _ p hj (by omega) W hW)
  have HW := Lib.hid (fun W hW => works_any W hW)
  have HG := Lib.hid hG
  have n1 : ¬ (2500 : Int) < (a.size : Int) := by omega
  have n2 : ¬ (2500 : Int) < (b.size : Int) := by omega
  clear hj hp hG j1 j2
  go_enter Tryd.func6, Tryd.ntmps6
  go_wp2_with fail
  refine H1.out.mono ?_
  rintro e w1 ⟨rfl, hB1⟩
  have HG1 := Lib.hid (HG.out.below (Nat.le_refl _) hB1)
  have HB1 := Lib.hid hB1
  clear hB1
  go_wp2_with fail
  refine (H2.out _ HG1.out).mono ?_
  rintro e w2 ⟨v2, a2, n2', rfl, hB2⟩
  have HG2 := Lib.hid (HG1.out.below (Nat.le_refl _) hB2)
  have HB2 := Lib.hid (HB1.out.trans (hB2.mono HB1.out.size))
  clear hB2
  go_wp2_with fail
  refine (H3.out _ HG2.out).mono ?_
  rintro e w3 ⟨rfl, hB3⟩
  have HG3 := Lib.hid (HG2.out.below (Nat.le_refl _) hB3)
  have HB3 := Lib.hid (HB2.out.trans (hB3.mono HB2.out.size))
  clear hB3
  go_wp2_with (first
    | (go_at_call 10; refine (num_any _ _).mono ?_; rintro e w' ⟨rfl, rfl⟩)
    | (go_at_call 11; refine (HW.out _ HG3.out).mono ?_; rintro e w4 ⟨rfl, hB4⟩))
  go_ret
  exact ⟨rfl, HB3.out.trans (hB4.mono HB3.out.size)⟩

set_option maxRecDepth 100000 in
set_option maxHeartbeats 4000000 in
theorem lawJoin_bad2 (a b : ByteArray) (w : World) (hG : GlobD w) (ha : a.size ≤ 2500) (hb : b.size ≤ 2500) (hp : (lexAt a.data.toList 0).2 = none) (q : Nat) (hq : (lexAt b.data.toList 0).2 = some q) :
    Calls Tryd.prog 6 #[.string a, .string b] w fun e w' => e = .returned (.bool true) ∧ Below w.heap.size w w' := by
  obtain ⟨j1, j2⟩ := joinT a b
  have hj : (lexAt (a ++ ⟨#[10]⟩ ++ b).data.toList 0).2 = some (q + (a.size + 1)) := by rw [j1, lexAt_join, hp]; simp only; rw [hq, Lib.size_eq]; rfl
  have hqb := (lexAt_bounds _ b.data.toList (Nat.le_refl _) 0).2.2 q hq
  rw [← Lib.size_eq] at hqb
  have H1 := Lib.hid (lex_some a (by omega) w hG)
  have H1' := Lib.hid (lex_ok a (lexAt a.data.toList 0).1 (by rw [← hp]) (by omega) w hG)
  have H2 := Lib.hid (fun W hW => lex_bad b q hq (by omega) W hW)
  have H3 := fun W hW => lex_bad _ (q + (a.size + 1)) hj (by omega) W hW
  obtain ⟨pl, hpl⟩ : ∃ pl : Int, pl = ((q + (a.size + 1) : Nat) : Int) := ⟨_, rfl⟩
  rw [← hpl] at H3
  have hpe : (pl == (a.size : Int) + 1 + (q : Int)) = true := by rw [beq_iff_eq, hpl]; push_cast; omega
  have H3 := Lib.hid H3
  have HW := Lib.hid (fun W hW => works_any W hW)
  have HG := Lib.hid hG
  have n1 : ¬ (2500 : Int) < (a.size : Int) := by omega
  have n2 : ¬ (2500 : Int) < (b.size : Int) := by omega
  have n3 : (q : Int) ≤ 2500 := by omega
  clear hj hp hG j1 j2 hpl hq H1
  go_enter Tryd.func6, Tryd.ntmps6
  go_wp2_with fail
  refine H1'.out.mono ?_
  rintro e w1 ⟨v1, rfl, _, hB1⟩
  have HG1 := Lib.hid (HG.out.below (Nat.le_refl _) hB1)
  have HB1 := Lib.hid hB1
  clear hB1
  go_wp2_with fail
  refine (H2.out _ HG1.out).mono ?_
  rintro e w2 ⟨rfl, hB2⟩
  have HG2 := Lib.hid (HG1.out.below (Nat.le_refl _) hB2)
  have HB2 := Lib.hid (HB1.out.trans (hB2.mono HB1.out.size))
  clear hB2
  go_wp2_with fail
  refine (H3.out _ HG2.out).mono ?_
  rintro e w3 ⟨rfl, hB3⟩
  have HG3 := Lib.hid (HG2.out.below (Nat.le_refl _) hB3)
  have HB3 := Lib.hid (HB2.out.trans (hB3.mono HB2.out.size))
  clear hB3
  go_wp2_with (first
    | (go_at_call 10; refine (num_any _ _).mono ?_; rintro e w' ⟨rfl, rfl⟩)
    | (go_at_call 11; refine (HW.out _ HG3.out).mono ?_; rintro e w4 ⟨rfl, hB4⟩))
  go_ret
  exact ⟨rfl, HB3.out.trans (hB4.mono HB3.out.size)⟩
end Go.Proofs.YtdodkbpagbblmaaDoor
end
section
namespace Go.Proofs.YtdodkbpagbblmaaDoor
open Go Go.RowKit

theorem withI_at (ws : List (Wd × Nat)) (i : Nat) (p : Wd × Nat) (h : ws[i]? = some p) : (withI ws)[i]? = some (p.1, (p.2 : Int)) := by
  unfold withI
  rw [List.getElem?_map, h]
  rfl
theorem eq_selfA (x : Wd) (a b : Int) (h : a = b) (w : World) : (Op.equalIn 10000 38 (.agg (wordC x a)) (.agg (wordC x b))).run Tryd.prog w = .ok true w := by
  have k := eq_wds 9996 x x a b w
  have e : (x.kind == x.kind && (a == b && (x.txt.toList == x.txt.toList && (x.set == x.set && x.num == x.num)))) = true := by simp [h]
  rw [e] at k
  exact k

set_option maxRecDepth 100000 in
set_option maxHeartbeats 16000000 in
theorem lawJoin_ok (a b : ByteArray) (w : World) (hG : GlobD w) (ha : a.size ≤ 2500) (hb : b.size ≤ 2500) (hp : (lexAt a.data.toList 0).2 = none) (hq : (lexAt b.data.toList 0).2 = none) :
    Calls Tryd.prog 6 #[.string a, .string b] w fun e w' => e = .returned (.bool true) ∧ Below w.heap.size w w' := by
  obtain ⟨j1, j2⟩ := joinT a b
  obtain ⟨la, hla⟩ : ∃ la, la = (lexAt a.data.toList 0).1 := ⟨_, rfl⟩
  obtain ⟨lb, hlb⟩ : ∃ lb, lb = (lexAt b.data.toList 0).1 := ⟨_, rfl⟩
  have hj : lexAt (a ++ ⟨#[10]⟩ ++ b).data.toList 0 = (la ++ shiftW (a.size + 1) lb, none) := by rw [j1, lexAt_join, hp]; simp only; rw [hq, Lib.size_eq, hla, hlb]; rfl
  have b1 := lexAt_bounds _ a.data.toList (Nat.le_refl _) 0
  have b2 := lexAt_bounds _ b.data.toList (Nat.le_refl _) 0
  rw [← hla, ← Lib.size_eq] at b1
  rw [← hlb, ← Lib.size_eq] at b2
  obtain ⟨na, hna⟩ : ∃ n, n = la.length := ⟨_, rfl⟩
  obtain ⟨nb, hnb⟩ : ∃ n, n = lb.length := ⟨_, rfl⟩
  have HN : Hid (la.length = na ∧ lb.length = nb) := ⟨hna.symm, hnb.symm⟩
  have hKl : (la ++ shiftW (a.size + 1) lb).length = na + nb := by rw [List.length_append, hna, hnb]; simp [shiftW]
  have m1 : na ≤ 2500 := by rw [hna]; omega
  have m2 : nb ≤ 2500 := by rw [hnb]; omega
  have HA : Hid (∀ i (x : Wd × Nat), la[i]? = some x → (la ++ shiftW (a.size + 1) lb)[i]? = some x) := Lib.hid fun i x hx => by
    rw [List.getElem?_append_left (List.getElem?_eq_some_iff.1 hx).1]; exact hx
  have HBt : Hid (∀ i (x : Wd × Nat), lb[i]? = some x → (la ++ shiftW (a.size + 1) lb)[na + i]? = some (x.1, x.2 + (a.size + 1)) ∧ x.2 ≤ 2500) := Lib.hid fun i x hx => by
    refine ⟨?_, ?_⟩
    · rw [List.getElem?_append_right (by omega), hna, Nat.add_sub_cancel_left]
      unfold shiftW
      rw [List.getElem?_map, hx]
      rfl
    · have := b2.2.1 x (List.mem_of_getElem? hx)
      omega
  have H1 := Lib.hid (lex_ok a la (by rw [hla, ← hp]) (by omega) w hG)
  have H2 := Lib.hid (fun W hW => lex_ok b lb (by rw [hlb, ← hq]) (by omega) W hW)
  have H3 := Lib.hid (fun W hW => lex_ok _ _ hj (by omega) W hW)
  have HKl := Lib.hid hKl
  obtain ⟨K, hK⟩ : ∃ K, K = la ++ shiftW (a.size + 1) lb := ⟨_, rfl⟩
  rw [← hK] at H3 HA HBt HKl
  have HW := Lib.hid (fun W hW => works_any W hW)
  have HG := Lib.hid hG
  have n1 : ¬ (2500 : Int) < (a.size : Int) := by omega
  have n2 : ¬ (2500 : Int) < (b.size : Int) := by omega
  clear hj hp hG j1 j2 hq hla hlb b1 b2 hna hnb hKl hK
  go_enter Tryd.func6, Tryd.ntmps6
  go_wp2_with fail
  refine H1.out.mono ?_
  rintro e w1 ⟨v1, rfl, ho1, hB1⟩
  obtain ⟨s1, c1, rfl, hr1⟩ := own_rowWn ho1 HN.out.1
  have HR1 := Lib.hid hr1
  have HG1 := Lib.hid (HG.out.below (Nat.le_refl _) hB1)
  have HB1 := Lib.hid hB1
  clear hB1 ho1 hr1
  go_wp2_with fail
  refine (H2.out _ HG1.out).mono ?_
  rintro e w2 ⟨v2, rfl, ho2, hB2⟩
  obtain ⟨s2, c2, rfl, hr2⟩ := own_rowWn ho2 HN.out.2
  have HR1 := Lib.hid (HR1.out.below hB2)
  have HR2 := Lib.hid hr2
  have HG2 := Lib.hid (HG1.out.below (Nat.le_refl _) hB2)
  have HB2 := Lib.hid (HB1.out.trans (hB2.mono HB1.out.size))
  clear hB2 ho2 hr2
  go_wp2_with fail
  refine (H3.out _ HG2.out).mono ?_
  rintro e w3 ⟨v3, rfl, ho3, hB3⟩
  obtain ⟨s3, c3, rfl, hr3⟩ := own_rowWn ho3 HKl.out
  have HR1 := Lib.hid (HR1.out.below hB3)
  have HR2 := Lib.hid (HR2.out.below hB3)
  have HR3 := Lib.hid hr3
  have HG3 := Lib.hid (HG2.out.below (Nat.le_refl _) hB3)
  have HB3 := Lib.hid (HB2.out.trans (hB3.mono HB2.out.size))
  clear hB3 ho3 hr3 H1 H2 H3 HG HG1 HG2 HB1 HB2
  go_wp2_with (go_at_call 10; refine (num_any _ _).mono ?_; rintro e w' ⟨rfl, rfl⟩)
  go_loopw [14] (fun i wr => ∃ m : Nat, i = .int .i64 m ∧ m ≤ na + nb ∧ Hid (Below w3.heap.size w3 wr))
    (fun i _ => na + nb - (intOf i).toNat)
  case atStart => exact ⟨0, rfl, Nat.zero_le _, Below.refl _ _⟩
  case round =>
    obtain ⟨m, rfl, hm, hB⟩ := hrel
    have hszr := hB.out.size
    have HBn : Hid (∀ o, Below w3.heap.size w3 (wr.alloc o)) := Lib.hid fun o => hB.out.alloc hszr o
    by_cases hlt : m < na + nb
    · have n4 : (m : Int) < (na : Int) + (nb : Int) := by omega
      by_cases hl1 : m < na
      · have n5 : (m : Int) < (na : Int) := by omega
        have HX : Hid (la[m]? = some (la[m]'(by rw [HN.out.1]; exact hl1))) := Lib.hid (List.getElem?_eq_getElem _)
        obtain ⟨x, hx⟩ : ∃ x, la[m]'(by rw [HN.out.1]; exact hl1) = x := ⟨_, rfl⟩
        rw [hx] at HX
        clear hx
        have HK := Lib.hid (HA.out m x HX.out)
        obtain ⟨x, ax⟩ := x
        obtain ⟨g, off, rfl, hW⟩ := HR1.out m _ (withI_at _ _ _ HX.out)
        obtain ⟨g3, of3, rfl, hV⟩ := HR3.out m _ (withI_at _ _ _ HK.out)
        have hW := hW.below hB.out hW.lt
        have hV := hV.below hB.out hV.lt
        have bg := hW.lt
        have bh := hV.lt
        have bgn : ¬ g = wr.heap.size := by omega
        have bhn : ¬ g3 = wr.heap.size := by omega
        obtain ⟨c0, c1', c2', c3', c4, c5, c6, c7⟩ := hW
        obtain ⟨d0, d1, d2, d3, d4, d5, d6, d7⟩ := hV
        dsimp only at c0 c1' c2' c3' c4 c5 c6 c7 d0 d1 d2 d3 d4 d5 d6 d7
        have HE := fun w' => eq_selfA x (ax : Int) (ax : Int) rfl w'
        unfold wordC at HE
        clear HX HK hB
        go_wp2
        go_quiet (fail)
        go_wp2
        go_roundw
        case rel => exact ⟨m + 1, by go_num, by omega, (HBn.out _).trans ⟨rfl, rfl, rfl, Nat.le_refl _, fun _ _ => rfl⟩⟩
        case measure => simp [intOf]; omega
      · obtain ⟨j, rfl⟩ : ∃ j, m = na + j := ⟨m - na, by omega⟩
        have hlj : j < nb := by omega
        have n5 : ¬ ((na : Int) + (j : Int) < (na : Int)) := by omega
        have n6 : (j : Int) < (nb : Int) := by omega
        have HX : Hid (lb[j]? = some (lb[j]'(by rw [HN.out.2]; exact hlj))) := Lib.hid (List.getElem?_eq_getElem _)
        obtain ⟨x, hx⟩ : ∃ x, lb[j]'(by rw [HN.out.2]; exact hlj) = x := ⟨_, rfl⟩
        rw [hx] at HX
        clear hx
        have HK := Lib.hid (HBt.out j x HX.out)
        obtain ⟨x, px⟩ := x
        have hk1 := withI_at _ _ _ HK.out.1
        have hpx := HK.out.2
        dsimp only at hk1 hpx
        obtain ⟨ak, hak⟩ : ∃ ak : Int, ak = ((px + (a.size + 1) : Nat) : Int) := ⟨_, rfl⟩
        rw [← hak] at hk1
        have HE := fun w' => eq_selfA x ak ((px : Int) + (a.size : Int) + 1) (by rw [hak]; push_cast; omega) w'
        have n7 : (px : Int) ≤ 2500 := by omega
        obtain ⟨g, off, rfl, hW⟩ := HR2.out j _ (withI_at _ _ _ HX.out)
        obtain ⟨g3, of3, rfl, hV⟩ := HR3.out (na + j) _ hk1
        have hW := hW.below hB.out hW.lt
        have hV := hV.below hB.out hV.lt
        have bg := hW.lt
        have bh := hV.lt
        have bgn : ¬ g = wr.heap.size := by omega
        have bhn : ¬ g3 = wr.heap.size := by omega
        obtain ⟨c0, c1', c2', c3', c4, c5, c6, c7⟩ := hW
        obtain ⟨d0, d1, d2, d3, d4, d5, d6, d7⟩ := hV
        dsimp only at c0 c1' c2' c3' c4 c5 c6 c7 d0 d1 d2 d3 d4 d5 d6 d7
        unfold wordC at HE
        clear HX HK hB hak hk1
        go_wp2
        go_quiet (fail)
        go_wp2
        go_roundw
        case rel => exact ⟨na + j + 1, by go_num, by omega, (HBn.out _).trans ⟨rfl, rfl, rfl, Nat.le_refl _, fun _ _ => rfl⟩⟩
        case measure => simp [intOf]; omega
    · obtain rfl : m = na + nb := by omega
      go_wp2_with (go_at_call 11; refine (HW.out _ (HG3.out.below (Nat.le_refl _) hB.out)).mono ?_; rintro e w4 ⟨rfl, hB4⟩)
      go_ret
      exact ⟨rfl, HB3.out.trans ((hB.out.trans (hB4.mono hszr)).mono HB3.out.size)⟩

/-- DeflexJoin's law, at every input. -/
theorem lawJoin (a b : ByteArray) (w : World) (hG : GlobD w) :
    Calls Tryd.prog 6 #[.string a, .string b] w fun e w' => e = .returned (.bool true) ∧ Below w.heap.size w w' := by
  by_cases ha : 2500 < a.size
  · exact lawJoin_long a b w hG (.inl ha)
  by_cases hb : 2500 < b.size
  · exact lawJoin_long a b w hG (.inr hb)
  cases hp : (lexAt a.data.toList 0).2 with
  | some p => exact lawJoin_bad1 a b w hG (by omega) (by omega) p hp
  | none =>
    cases hq : (lexAt b.data.toList 0).2 with
    | some q => exact lawJoin_bad2 a b w hG (by omega) (by omega) hp q hq
    | none => exact lawJoin_ok a b w hG (by omega) (by omega) hp hq
end Go.Proofs.YtdodkbpagbblmaaDoor
end
