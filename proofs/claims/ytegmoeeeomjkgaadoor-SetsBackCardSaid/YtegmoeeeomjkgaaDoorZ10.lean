import Derived.Test.YtegmoeeeomjkgaaDoorZ4
import Derived.Test.YtegmoeeeomjkgaaDoorZ5
import Derived.Test.YtegmoeeeomjkgaaDoorZ7
import Derived.Test.YtegmoeeeomjkgaaDoorZ8
section
namespace Go.Proofs.YtegmoeeeomjkgaaDoor
open Go Go.RowKit Go.Vals
section
variable {o : Oper} {ρ : Operand → Value} {w : World}
theorem ex_neT {x y : Operand} {ty : TypeId} {s : BS} (ho : o.op = .binOp .neq 29 x y ty) (hx : ρ x = vset s) (hy : ρ y = vset s) : (execOp ρ o).run Tryd.prog w = .ok (.value (.bool false)) w := by
  have h := eq_sets s s
  unfold vset at hx hy
  unfold execOp
  rw [ho]
  simp only [hx, hy]
  go_simp
theorem ex_neB {x y : Operand} {ty : TypeId} {s : Bool} (ho : o.op = .binOp .neq 4 x y ty) (hx : ρ x = .bool s) (hy : ρ y = .bool s) : (execOp ρ o).run Tryd.prog w = .ok (.value (.bool false)) w := by
  unfold execOp
  rw [ho]
  simp only [hx, hy]
  cases s <;> kernel_rfl
theorem ex_neI {x y : Operand} {n : Int} (ho : o.op = .binOp .neq 3 x y 3) (hx : ρ x = .int .i64 n) (hy : ρ y = .int .i64 n) : (execOp ρ o).run Tryd.prog w = .ok (.value (.bool false)) w := by
  unfold execOp; rw [ho]; simp only [hx, hy]
  go_simp
theorem ex_neU {x y : Operand} {n : Int} (ho : o.op = .binOp .neq 5 x y 5) (hx : ρ x = .int .u8 n) (hy : ρ y = .int .u8 n) : (execOp ρ o).run Tryd.prog w = .ok (.value (.bool false)) w := by
  unfold execOp; rw [ho]; simp only [hx, hy]
  go_simp
theorem ex_zero29 (ho : o.op = .build 29 #[]) : (execOp ρ o).run Tryd.prog w = .ok (.value (vset 0#256)) w := by
  rw [← vset_zero]
  unfold execOp; rw [ho]
  kernel_rfl
end
end Go.Proofs.YtegmoeeeomjkgaaDoor
end
section
namespace Go.Proofs.YtegmoeeeomjkgaaDoor
open Go Go.RowKit Go.Maps Go.Shelf Go.Vals

/-! ### the layers' calls as SetsBack makes them -/
theorem tell_len (s : BS) : (bytesStr (textS s)).size ≤ 140737488351232 := by
  rw [bytesStr_size]
  have h1 := rangesT_len (rngs (bytesL s))
  have h2 := rangesT_len (rngs (bytesL (~~~s)))
  have h3 := rngs_length (bytesL s)
  have h4 := rngs_length (bytesL (~~~s))
  have h5 := length_bytesL s
  have h6 := length_bytesL (~~~s)
  unfold textS
  split <;> simp <;> omega
theorem tell_read (s : BS) : readV (readS (bytesStr (textS s)).data.toList) = .tuple #[vset s, .int .i64 0] := by
  have e : (bytesStr (textS s)).data.toList = u8s (textS s) := bytesStr_list _
  rw [e, read_text]
  rfl
/-- A set's text, and the set that it is read as. -/
theorem back_calls (s : BS) : ∃ t : ByteArray, (∀ W, Glob W → Calls Tryd.prog 38 #[vset s] W fun e w' => e = .returned (.string t) ∧ Below W.heap.size W w') ∧
    (∀ W, Glob W → Calls Tryd.prog 36 #[.string t] W fun e w' => e = .returned (.tuple #[vset s, .int .i64 0]) ∧ Below W.heap.size W w') := by
  refine ⟨bytesStr (textS s), fun W hG => text_any s W hG, fun W hG => ?_⟩
  have h := read_any (bytesStr (textS s)) (tell_len s) W hG
  rw [tell_read] at h
  exact h
/-- A set's ranges, and the set that they make. -/
theorem make_calls (s : BS) : ∃ P : Value → World → Prop, (∀ W, Glob W → Calls Tryd.prog 23 #[vset s] W fun e w' => ∃ v, e = .returned v ∧ P v w' ∧ Below W.heap.size W w') ∧
    (∀ v W, P v W → Calls Tryd.prog 11 #[v] W fun e w' => e = .returned (.tuple #[vset s, .int .i64 0]) ∧ Below W.heap.size W w') := by
  refine ⟨fun v W => ∃ a cap, v = .slice a (rngs (bytesL s)).length cap ∧ RowR W a (rngs (bytesL s)), fun W hG => ?_, fun v W hv => ?_⟩
  · refine (ranges_any s W hG).mono fun e w' ⟨v, he, ho, _, hB⟩ => ?_
    obtain ⟨a, cap, hv, hr⟩ := owned_rowR ho
    exact ⟨v, he, ⟨a, cap, hv, hr⟩, hB⟩
  · obtain ⟨a, cap, rfl, hr⟩ := hv
    have h1 := rngs_length (bytesL s)
    have h2 := length_bytesL s
    have h := make_any a cap (rngs (bytesL s)) W hr (rngs_small _ fun y hy => ((mem_bytesL s y).1 hy).1) (by omega)
    have e : makeV (rngs (bytesL s)) = .tuple #[vset s, .int .i64 0] := by unfold makeV; rw [make_rngs]
    rw [e] at h
    exact h

set_option maxRecDepth 100000 in
set_option maxHeartbeats 4000000 in
theorem lawBack_long (a : BS) (s : Option Addr) (cs : Nat) (l : List BS) (t : ByteArray) (w : World) (hG : Glob w) (h : 10 < l.length ∨ 2000 < t.size) :
    Calls Tryd.prog 7 #[vset a, .slice s l.length cs, .string t] w fun e w' => e = .returned (.bool true) ∧ Below w.heap.size w w' := by
  have HW : Hid (∀ W, Below w.heap.size w W → Calls Tryd.prog 10 #[] W fun e w' => e = .returned (.bool true) ∧ Below W.heap.size W w') := fun W hB => works_any W (hG.below (Nat.le_refl _) hB)
  clear hG
  have HB0 : Hid (Below w.heap.size w (w.alloc (.cells (cset a) 29))) := (Below.refl _ w).alloc (Nat.le_refl _) _
  by_cases h1 : 10 < l.length
  · have h1' : (10 : Int) < l.length := by omega
    clear h
    unfold vset
    go_enter Tryd.func7, Tryd.ntmps7
    go_wp2_with fail
    refine (HW.out _ HB0.out).mono ?_
    rintro e w1 ⟨rfl, hB⟩
    have HB := Lib.hid (HB0.out.trans (hB.mono HB0.out.size))
    clear hB HW HB0
    go_wp2
    go_ret
    exact ⟨rfl, HB.out⟩
  · have h1' : ¬ (10 : Int) < l.length := by omega
    have h2' : (2000 : Int) < t.size := by omega
    clear h
    unfold vset
    go_enter Tryd.func7, Tryd.ntmps7
    go_wp2_with fail
    refine (HW.out _ HB0.out).mono ?_
    rintro e w1 ⟨rfl, hB⟩
    have HB := Lib.hid (HB0.out.trans (hB.mono HB0.out.size))
    clear hB HW HB0
    go_wp2
    go_ret
    exact ⟨rfl, HB.out⟩

section
variable {o : Oper} {ρ : Operand → Value} {w : World}
theorem ex_loadAt {x : Operand} {n q : Nat} {z : BS} (ho : o.op = .load 29 x) (hx : ρ x = .pointer (some ⟨n, q, none⟩)) (c0 : w.cell? ⟨n, q, none⟩ = some (.int .u64 (wdI z 0))) (c1 : w.cell? ⟨n, q + 1, none⟩ = some (.int .u64 (wdI z 1))) (c2 : w.cell? ⟨n, q + 2, none⟩ = some (.int .u64 (wdI z 2))) (c3 : w.cell? ⟨n, q + 3, none⟩ = some (.int .u64 (wdI z 3))) : (execOp ρ o).run Tryd.prog w = .ok (.value (vset z)) w := by
  unfold execOp vset
  rw [ho]
  simp only [hx]
  go_simp
theorem ex_index {x y : Operand} {g f n c k q : Nat} (ho : o.op = .indexAddr 43 x y) (hx : ρ x = .slice (some ⟨g, f, none⟩) n c) (hy : ρ y = .int .i64 (k : Int)) (hk : k < n) (hq : f + k * 4 = q) : (execOp ρ o).run Tryd.prog w = .ok (.value (.pointer (some ⟨g, q, none⟩))) w := by
  subst hq
  have h1 : (k : Int) < (n : Int) := by omega
  unfold execOp
  rw [ho]
  simp only [hx, hy]
  go_simp
def cells2 (a b : BS) : Array Value := #[.int .u64 (wdI a 0), .int .u64 (wdI a 1), .int .u64 (wdI a 2), .int .u64 (wdI a 3), .int .u64 (wdI b 0), .int .u64 (wdI b 1), .int .u64 (wdI b 2), .int .u64 (wdI b 3)]
theorem ex_slice2 {x y : Operand} {a b : BS} (ho : o.op = .buildSlice 43 2 #[(0, x), (1, y)]) (hx : ρ x = vset a) (hy : ρ y = vset b) :
    (execOp ρ o).run Tryd.prog w = .ok (.value (.slice (some ⟨w.heap.size, 0, none⟩) 2 2)) (w.alloc (.cells (cells2 a b) 29)) := by
  unfold vset at hx hy
  unfold execOp cells2
  rw [ho]
  simp only [hx, hy]
  go_simp
theorem ex_add256 {x y : Operand} {m n : Nat} (ho : o.op = .binOp .add 3 x y 3) (hx : ρ x = .int .i64 (m : Int)) (hy : ρ y = .int .i64 (n : Int)) (h : m + n = 256) : (execOp ρ o).run Tryd.prog w = .ok (.value (.int .i64 256)) w := by
  have e : (m : Int) + (n : Int) = 256 := by omega
  unfold execOp; rw [ho]; simp only [hx, hy]
  go_simp
  first | done | rfl | (rw [e]; rfl)
end
theorem u2_call {a b : BS} {W : World} {x : Value} (h : ∃ n, x = .slice (some ⟨n, 0, none⟩) 2 2 ∧ Blk W n 29 (cells2 a b)) : Calls Tryd.prog 20 #[x] W fun e w' => e = .returned (vset (a ||| b)) ∧ Below W.heap.size W w' := by
  obtain ⟨n, rfl, hb⟩ := h
  have h := union_any (some ⟨n, 0, none⟩) 2 [a, b] W (rowB_two hb) (by simp)
  have e : unionL [a, b] = a ||| b := by simp [unionL]
  rw [e] at h
  exact h
theorem u2_callE {a b c : BS} (e : a ||| b = c) {W : World} {x : Value} (h : ∃ n, x = .slice (some ⟨n, 0, none⟩) 2 2 ∧ Blk W n 29 (cells2 a b)) : Calls Tryd.prog 20 #[x] W fun e w' => e = .returned (vset c) ∧ Below W.heap.size W w' := by
  rw [← e]; exact u2_call h
theorem bk1 (a y : BS) : ~~~a &&& ~~~y = ~~~(a ||| y) := by
  apply BitVec.eq_of_getLsbD_eq; intro j hj
  simp [hj]
theorem bk2 (a y : BS) : (a &&& ~~~y) ||| (a &&& y) = a := by
  apply BitVec.eq_of_getLsbD_eq; intro j hj
  simp only [BitVec.getLsbD_or, BitVec.getLsbD_and, BitVec.getLsbD_not, hj, decide_true, Bool.true_and]
  cases a.getLsbD j <;> cases y.getLsbD j <;> rfl
theorem bk3 (a y : BS) (h : (a &&& y == a) = true) : a ||| y = y := by
  rw [beq_iff_eq] at h
  apply BitVec.eq_of_getLsbD_eq; intro j hj
  have := congrArg (fun v => BitVec.getLsbD v j) h
  simp only [BitVec.getLsbD_and] at this
  rw [BitVec.getLsbD_or]
  cases h1 : a.getLsbD j <;> cases h2 : y.getLsbD j <;> simp_all
theorem notE {a : BS} (W : World) : Calls Tryd.prog 29 #[vset (~~~a)] W fun e w' => e = .returned (vset a) ∧ Below W.heap.size W w' := by
  have h := not_any (~~~a) W
  rw [BitVec.not_not] at h
  exact h
theorem putL_on : ∀ (l : List Tmp) (F T : Array Value), T.size = F.size → (∀ t, t < F.size → t ∉ l → T[t]? = F[t]?) → T = putL F (l.map some) (l.map fun t => T.getD t undef)
  | [], F, T, hT, h => by
    apply Array.ext hT
    intro i h1 h2
    have := h i h2 (by simp)
    simpa [h1, h2] using this
  | t :: l, F, T, hT, h => by
    show T = putL (F.setIfInBounds t (T.getD t undef)) _ _
    refine putL_on l _ T (by simpa using hT) fun s hs hn => ?_
    have hs' : s < F.size := by simpa using hs
    by_cases e : s = t
    · subst e
      rw [Array.getElem?_setIfInBounds_self_of_lt hs', Array.getD_eq_getD_getElem?, Array.getElem?_eq_getElem (by omega)]
      rfl
    · rw [Array.getElem?_setIfInBounds_ne (fun k => e k.symm)]
      exact h s hs' (by simp [e, hn])
theorem loose_eq {F T : Array Value} {l : List Tmp} {p : Tmp → Value → World → Prop} {w : World} (hT : T.size = F.size) (hk : ∀ t < F.size, ∃ v, T[t]? = some v ∧ Kn F l p t v w) : T = putL F (l.map some) (l.map fun t => T.getD t undef) := by
  refine putL_on l F T hT fun t ht hn => ?_
  obtain ⟨v, hv, hK⟩ := hk t ht
  rcases hK with ⟨hm, _⟩ | ⟨_, hK⟩
  · exact absurd hm hn
  · rw [hv, hK]

set_option maxRecDepth 100000 in
set_option maxHeartbeats 16000000 in
theorem lawBack_any (HS : SortsS) (a : BS) (s : Option Addr) (cs : Nat) (l : List BS) (t : ByteArray) (w : World) (hG : Glob w) (hd : RowB w s l) (h1 : l.length ≤ 10) (h2 : t.size ≤ 2000) :
    Calls Tryd.prog 7 #[vset a, .slice s l.length cs, .string t] w fun e w' => e = .returned (.bool true) ∧ Below w.heap.size w w' := by
  have HG := Lib.hid hG
  have HD := Lib.hid hd
  clear hG hd
  have h1' : ¬ (10 : Int) < l.length := by omega
  have h2' : ¬ (2000 : Int) < t.size := by omega
  obtain ⟨ta, hta1, hta2⟩ := back_calls a
  obtain ⟨P, hp1, hp2⟩ := make_calls a
  obtain ⟨su, ev, hV, hev⟩ : ∃ su ev, readV (readS t.data.toList) = .tuple #[vset su, .int .i64 ev] ∧ ((ev = 0) ∨ (su = 0#256 ∧ ev = 120)) := by
    cases readS t.data.toList with
    | none => exact ⟨0#256, 120, by unfold readV; rw [vset_zero], .inr ⟨rfl, rfl⟩⟩
    | some u => exact ⟨u, 0, rfl, .inl rfl⟩
  have HR0 := fun W hG => read_any t (by omega) W hG
  rw [hV] at HR0
  have Hev := Lib.hid hev
  have hB00 : Hid (Below w.heap.size w (w.alloc (.cells (cset a) 29))) := (Below.refl _ w).alloc (Nat.le_refl _) _
  have hA0 := Lib.hid (Blk.new w 29 (cset a))
  unfold vset at hta1 hta2 hp1 hp2 HR0 ⊢
  have HT1 := Lib.hid hta1
  have HT2 := Lib.hid hta2
  have HP1 := Lib.hid hp1
  have HP2 := Lib.hid hp2
  have HR := Lib.hid HR0
  have HE := eq_sets a a
  have hbb : (a == a) = true := by simp
  rw [hbb] at HE
  clear hta1 hta2 hp1 hp2 HR0 hbb hV hev
  go_enter Tryd.func7, Tryd.ntmps7
  try simp only [List.append_eq, List.cons_append, List.nil_append]
  have c0 : (w.alloc (.cells (cset a) 29)).cell? ⟨w.heap.size, 0, none⟩ = some (.int .u64 (wdI a 0)) := hA0.out.cell 0
  go_wp2_with fail
  refine (HT1.out _ (HG.out.below (Nat.le_refl _) hB00.out)).mono ?_
  rintro e w1 ⟨rfl, hB1⟩
  have HA1 := Lib.hid (hA0.out.below hB1 (by simp))
  have HB1 := Lib.hid (hB00.out.trans (hB1.mono (by simp)))
  obtain ⟨nA, hnA⟩ : ∃ nA, nA = w.heap.size := ⟨_, rfl⟩
  have e2 : (.pointer (some ⟨w.heap.size, 0, none⟩) : Value) = .pointer (some ⟨nA, 0, none⟩) := by rw [hnA]
  rw [e2]
  rw [← hnA] at HA1
  clear e2 hB1 hB00 hA0 HT1 hnA c0
  go_wp2_with fail
  refine (HT2.out _ (HG.out.below (Nat.le_refl _) HB1.out)).mono ?_
  rintro e w2 ⟨rfl, hB2⟩
  have HA2 := Lib.hid (HA1.out.below hB2 HA1.out.lt)
  have HB2 := Lib.hid (HB1.out.trans (hB2.mono HB1.out.size))
  clear HA1 HB1 hB2 HT2
  have c0 : w2.cell? ⟨nA, 0, none⟩ = some (.int .u64 (wdI a 0)) := HA2.out.cell 0
  have c1 : w2.cell? ⟨nA, 1, none⟩ = some (.int .u64 (wdI a 1)) := HA2.out.cell 1
  have c2 : w2.cell? ⟨nA, 2, none⟩ = some (.int .u64 (wdI a 2)) := HA2.out.cell 2
  have c3 : w2.cell? ⟨nA, 3, none⟩ = some (.int .u64 (wdI a 3)) := HA2.out.cell 3
  have hlt := HA2.out.lt
  have hB3 : Hid (Below w.heap.size w (w2.alloc (.cells (cset a) 29))) := HB2.out.alloc HB2.out.size _
  have hS3 := Lib.hid (Blk.new w2 29 (cset a))
  have hA3 := Lib.hid (HA2.out.alloc (.cells (cset a) 29))
  go_wp2_with fail
  refine (HP1.out _ (HG.out.below (Nat.le_refl _) hB3.out)).mono ?_
  rintro e w4 ⟨rv, rfl, hrv, hB4⟩
  have Hrv := Lib.hid hrv
  have HA4 := Lib.hid (hA3.out.below hB4 hA3.out.lt)
  have HS4 := Lib.hid (hS3.out.below hB4 hS3.out.lt)
  have HB4 := Lib.hid (hB3.out.trans (hB4.mono hB3.out.size))
  obtain ⟨nS, hnS⟩ : ∃ nS, nS = w2.heap.size := ⟨_, rfl⟩
  rw [← hnS] at HS4 ⊢
  clear c0 c1 c2 c3 hlt hB3 hS3 hA3 hrv hB4 HA2 HB2 hnS HP1
  go_wp2_with fail
  refine (HP2.out _ _ Hrv.out).mono ?_
  rintro e w5 ⟨rfl, hB5⟩
  have HA5 := Lib.hid (HA4.out.below hB5 HA4.out.lt)
  have HS5 := Lib.hid (HS4.out.below hB5 HS4.out.lt)
  have HB5 := Lib.hid (HB4.out.trans (hB5.mono HB4.out.size))
  clear HA4 HS4 HB4 hB5 Hrv HP2
  have c0 : w5.cell? ⟨nA, 0, none⟩ = some (.int .u64 (wdI a 0)) := HA5.out.cell 0
  have c1 : w5.cell? ⟨nA, 1, none⟩ = some (.int .u64 (wdI a 1)) := HA5.out.cell 1
  have c2 : w5.cell? ⟨nA, 2, none⟩ = some (.int .u64 (wdI a 2)) := HA5.out.cell 2
  have c3 : w5.cell? ⟨nA, 3, none⟩ = some (.int .u64 (wdI a 3)) := HA5.out.cell 3
  have d0 : w5.cell? ⟨nS, 0, none⟩ = some (.int .u64 (wdI a 0)) := HS5.out.cell 0
  have d1 : w5.cell? ⟨nS, 1, none⟩ = some (.int .u64 (wdI a 1)) := HS5.out.cell 1
  have d2 : w5.cell? ⟨nS, 2, none⟩ = some (.int .u64 (wdI a 2)) := HS5.out.cell 2
  have d3 : w5.cell? ⟨nS, 3, none⟩ = some (.int .u64 (wdI a 3)) := HS5.out.cell 3
  have hlt := HA5.out.lt
  have hlt2 := HS5.out.lt
  have hB6 : Hid (Below w.heap.size w (w5.alloc (.cells (cset a) 29))) := HB5.out.alloc HB5.out.size _
  have hA6 := Lib.hid (HA5.out.alloc (.cells (cset a) 29))
  go_wp2_with (first | (go_at_call 14; refine (num_any _ _).mono ?_; rintro e w' ⟨rfl, rfl⟩))
  refine (HR.out _ (HG.out.below (Nat.le_refl _) hB6.out)).mono ?_
  rintro e w7 ⟨rfl, hB7⟩
  have HA7 := Lib.hid (hA6.out.below hB7 hA6.out.lt)
  have HB7 := Lib.hid (hB6.out.trans (hB7.mono hB6.out.size))
  clear c0 c1 c2 c3 d0 d1 d2 d3 hlt hlt2 hB6 hA6 HA5 HS5 HB5 hB7 HR
  obtain ⟨nT, hnT⟩ : ∃ nT, nT = w5.heap.size := ⟨_, rfl⟩
  rw [← hnT]
  clear hnT
  go_upto_if 67 with (first | (go_at_call 14; refine (num_any _ _).mono ?_; rintro e w' ⟨rfl, rfl⟩))
  obtain ⟨nU, hnU⟩ : ∃ nU, nU = w7.heap.size := ⟨_, rfl⟩
  obtain ⟨w8, hw8⟩ : ∃ w8 : World, w8 = w7.alloc (.cells (cset su) 29) := ⟨_, rfl⟩
  have hw82 : w7.alloc (.cells #[.int .u64 (wdI su 0), .int .u64 (wdI su 1), .int .u64 (wdI su 2), .int .u64 (wdI su 3)] 29) = w8 := hw8.symm
  have HA8 : Hid (Blk w8 nA 29 (cset a)) := Lib.hid (by rw [hw8]; exact HA7.out.alloc _)
  have HU8 : Hid (Blk w8 nU 29 (cset su)) := Lib.hid (by rw [hw8, hnU]; exact Blk.new w7 29 (cset su))
  have HB8 : Hid (Below w.heap.size w w8) := Lib.hid (by rw [hw8]; exact HB7.out.alloc HB7.out.size _)
  rw [hw82, ← hnU]
  clear hw8 hw82 hnU HA7 HB7
  go_cut [8] (fun s8 wx => Hid (Below w8.heap.size w8 wx))
  case first =>
    as_aux_lemma =>
    have u0 : w8.cell? ⟨nU, 0, none⟩ = some (.int .u64 (wdI su 0)) := HU8.out.cell 0
    have u1 : w8.cell? ⟨nU, 1, none⟩ = some (.int .u64 (wdI su 1)) := HU8.out.cell 1
    have u2' : w8.cell? ⟨nU, 2, none⟩ = some (.int .u64 (wdI su 2)) := HU8.out.cell 2
    have u3' : w8.cell? ⟨nU, 3, none⟩ = some (.int .u64 (wdI su 3)) := HU8.out.cell 3
    rcases Hev.out with rfl | ⟨rfl, rfl⟩
    · obtain ⟨tu, htu1, htu2⟩ := back_calls su
      unfold vset at htu1 htu2
      have HT1 := Lib.hid htu1
      have HT2 := Lib.hid htu2
      have HE2 := eq_sets su su
      have hbb : (su == su) = true := by simp
      rw [hbb] at HE2
      clear htu1 htu2 hbb HE
      go_wp2_with fail
      refine (HT1.out _ (HG.out.below (Nat.le_refl _) HB8.out)).mono ?_
      rintro e x1 ⟨rfl, hB1⟩
      have HU1 := Lib.hid (HU8.out.below hB1 HU8.out.lt)
      have HB1 := Lib.hid (HB8.out.trans (hB1.mono HB8.out.size))
      have HX1 := Lib.hid hB1
      clear u0 u1 u2' u3' hB1 HT1
      go_wp2_with fail
      refine (HT2.out _ (HG.out.below (Nat.le_refl _) HB1.out)).mono ?_
      rintro e x2 ⟨rfl, hB2⟩
      have HU2 := Lib.hid (HU1.out.below hB2 HU1.out.lt)
      have HX2 := Lib.hid (HX1.out.trans (hB2.mono HX1.out.size))
      have HX3 : Hid (Below w8.heap.size w8 (x2.alloc (.cells (cset su) 29))) := HX2.out.alloc HX2.out.size _
      have u0 : x2.cell? ⟨nU, 0, none⟩ = some (.int .u64 (wdI su 0)) := HU2.out.cell 0
      have u1 : x2.cell? ⟨nU, 1, none⟩ = some (.int .u64 (wdI su 1)) := HU2.out.cell 1
      have u2' : x2.cell? ⟨nU, 2, none⟩ = some (.int .u64 (wdI su 2)) := HU2.out.cell 2
      have u3' : x2.cell? ⟨nU, 3, none⟩ = some (.int .u64 (wdI su 3)) := HU2.out.cell 3
      have hlt := HU2.out.lt
      clear HU1 HB1 HX1 hB2 HT2 HX2
      go_wp2_with (first | (go_at_call 14; refine (num_any _ _).mono ?_; rintro e w' ⟨rfl, rfl⟩))
      go_meet
      exact HX3
    · have z : wdI 0#256 0 = 0 ∧ wdI 0#256 1 = 0 ∧ wdI 0#256 2 = 0 ∧ wdI 0#256 3 = 0 := by decide
      have HE2 := fun w => eq_words 9998 0 0 0 0 0 0 0 0 w
      simp only [z.1, z.2.1, z.2.2.1, z.2.2.2] at u0 u1 u2' u3' ⊢
      have hbb : ((0 : Int) == 0 && ((0 : Int) == 0 && ((0 : Int) == 0 && (0 : Int) == 0))) = true := by decide
      simp only [hbb] at HE2
      have HX3 : Hid (Below w8.heap.size w8 w8) := Below.refl _ _
      clear hbb HE z
      go_wp2_with fail
      go_meet
      exact HX3
  case rest =>
    obtain ⟨wb, rfl⟩ : ∃ wb : World, wb = wc := ⟨_, rfl⟩
    have HA := Lib.hid (HA8.out.below hcut.out HA8.out.lt)
    have HB := Lib.hid (HB8.out.trans (hcut.out.mono HB8.out.size))
    clear hcut HA8 HU8 HB8 Hev HE
    have HSp := Lib.hid (fun W (hB : Below w.heap.size w W) => split_any HS s cs l W (HG.out.below (Nat.le_refl _) hB) (HD.out.below hB (Nat.le_refl _)) (by omega))
    have hsum := Lib.hid (parts_256 l)
    have hprt : Hid (∀ (k : Nat) (x : BS), (splitL l)[k]? = some x → ∀ (m : Nat) (y : BS), l[m]? = some y → (x &&& y = x) ∨ ((x &&& y == x) = false ∧ x &&& y = 0#256)) := by
      refine Lib.hid fun k x hk m y hm => ?_
      have hP := ((splitL_parts l).1 x).1 (List.mem_of_getElem? hk)
      rcases part_in hP (List.mem_of_getElem? hm) with h | h
      · exact .inl h
      · refine .inr ⟨?_, h⟩
        rw [h]
        apply beq_eq_false_iff_ne.2
        intro e
        have := hP.lo
        rw [← e] at this
        simp at this
    have hLl := splitL_len l
    generalize splitL l = L at HSp hsum hprt hLl
    obtain ⟨hL1, hL2⟩ := hLl
    go_wp2_with fail
    refine (HSp.out wb HB.out).mono ?_
    rintro e w1 ⟨v1, rfl, hO1, hB1⟩
    obtain ⟨a1, c1, rfl, _⟩ := owned_rowB hO1
    obtain ⟨g1, rfl⟩ := ownsRow_pos hO1 hL2
    have HO1 := Lib.hid hO1
    have HA1 := Lib.hid (HA.out.below hB1 HA.out.lt)
    have HB1 := Lib.hid (HB.out.trans (hB1.mono HB.out.size))
    clear hO1 hB1 HA HB HSp
    go_wp2_with fail
    go_loopw [16, 17] (fun n i wr => ∃ k : Nat, i = .int .i64 k ∧ k ≤ L.length ∧ n = .int .i64 (cntTo L k : Nat) ∧ Hid (Below w1.heap.size w1 wr))
      (fun _ i _ => L.length - (intOf i).toNat)
    case atStart => exact ⟨0, rfl, Nat.zero_le _, rfl, Below.refl _ _⟩
    case round =>
      obtain ⟨k, rfl, hk, rfl, hW⟩ := hrel
      have hct := cntTo_le L k
      by_cases hlt : k < L.length
      · have HX : Hid (L[k]? = some L[k]) := Lib.hid (List.getElem?_eq_getElem hlt)
        obtain ⟨x, hx⟩ : ∃ x, L[k] = x := ⟨_, rfl⟩
        rw [hx] at HX
        clear hx
        obtain ⟨p0, p1, p2, p3⟩ := cellsB_at L k x HX.out
        have P0 := Lib.hid p0
        have P1 := Lib.hid p1
        have P2 := Lib.hid p2
        have P3 := Lib.hid p3
        have hO1w := own_below HO1.out hW.out (Nat.le_refl _)
        have c0 : wr.cell? ⟨g1, k * 4, none⟩ = some (.int .u64 (wdI x 0)) := (hO1w.cellAt (k * 4) (by omega)).trans p0
        have c1' : wr.cell? ⟨g1, k * 4 + 1, none⟩ = some (.int .u64 (wdI x 1)) := (hO1w.cellAt (k * 4 + 1) (by omega)).trans p1
        have c2' : wr.cell? ⟨g1, k * 4 + 2, none⟩ = some (.int .u64 (wdI x 2)) := (hO1w.cellAt (k * 4 + 2) (by omega)).trans p2
        have c3' : wr.cell? ⟨g1, k * 4 + 3, none⟩ = some (.int .u64 (wdI x 3)) := (hO1w.cellAt (k * 4 + 3) (by omega)).trans p3
        have hcx := cnt_256 x
        have HC : Hid (cntTo L (k + 1) = cntTo L k + cnt x) := Lib.hid (cntTo_succ L k x HX.out)
        have HCn0 := count_any x
        unfold vset at HCn0
        have HCn := fun W => Lib.hid (HCn0 W)
        have n1 : (k : Int) < (L.length : Int) := by omega
        have n0 : (0 : Int) ≤ (k : Int) := Int.natCast_nonneg _
        obtain ⟨cx, hcx2⟩ : ∃ cx, cnt x = cx := ⟨_, rfl⟩
        rw [hcx2] at hcx HC HCn
        obtain ⟨ck, hck⟩ : ∃ ck, cntTo L k = ck := ⟨_, rfl⟩
        rw [hck] at hct HC ⊢
        clear p0 p1 p2 p3 hO1w HCn0 hcx2 hck
        obtain ⟨wo, rfl⟩ : ∃ wo : World, wo = wr := ⟨_, rfl⟩
        go_wp2_with fail
        refine (HCn _).out.mono ?_
        rintro e w3 ⟨rfl, hB3⟩
        have HB3 := Lib.hid (hW.out.trans (hB3.mono hW.out.size))
        clear c0 c1' c2' c3' hB3 hW HCn
        go_wp2
        go_loopw [18] (fun i wr => ∃ m : Nat, i = .int .i64 m ∧ m ≤ l.length ∧ Hid (Below w3.heap.size w3 wr))
          (fun i _ => l.length - (intOf i).toNat)
        case atStart => exact ⟨0, rfl, Nat.zero_le _, Below.refl _ _⟩
        case round =>
          obtain ⟨m, rfl, hm, hV⟩ := hrel
          by_cases hmlt : m < l.length
          · have HY : Hid (l[m]? = some l[m]) := Lib.hid (List.getElem?_eq_getElem hmlt)
            obtain ⟨y, hy⟩ : ∃ y, l[m] = y := ⟨_, rfl⟩
            rw [hy] at HY
            clear hy
            obtain ⟨by', oy, rfl, e0, e1, e2, e3⟩ := HD.out m y HY.out
            have hby := lt_of_cell e0
            have HKeep : Hid (∀ W W', Below w3.heap.size w3 W → Below W.heap.size W W' → Below w3.heap.size w3 W' ∧ (W'.cell? ⟨g1, k * 4, none⟩ = some (.int .u64 (wdI x 0)) ∧ W'.cell? ⟨g1, k * 4 + 1, none⟩ = some (.int .u64 (wdI x 1)) ∧ W'.cell? ⟨g1, k * 4 + 2, none⟩ = some (.int .u64 (wdI x 2)) ∧ W'.cell? ⟨g1, k * 4 + 3, none⟩ = some (.int .u64 (wdI x 3))) ∧ (W'.cell? ⟨by', oy + m * 4, none⟩ = some (.int .u64 (wdI y 0)) ∧ W'.cell? ⟨by', oy + m * 4 + 1, none⟩ = some (.int .u64 (wdI y 1)) ∧ W'.cell? ⟨by', oy + m * 4 + 2, none⟩ = some (.int .u64 (wdI y 2)) ∧ W'.cell? ⟨by', oy + m * 4 + 3, none⟩ = some (.int .u64 (wdI y 3)))) := by
              refine Lib.hid fun W W' h1 h2 => ?_
              have h3 := h1.trans (h2.mono h1.size)
              have h4 := HB3.out.trans (h3.mono HB3.out.size)
              have hO1w := own_below HO1.out h4 (Nat.le_refl _)
              have h5 := HB1.out.trans (h4.mono HB1.out.size)
              exact ⟨h3, ⟨(hO1w.cellAt (k * 4) (by omega)).trans P0.out, (hO1w.cellAt (k * 4 + 1) (by omega)).trans P1.out, (hO1w.cellAt (k * 4 + 2) (by omega)).trans P2.out, (hO1w.cellAt (k * 4 + 3) (by omega)).trans P3.out⟩, (h5.cell (p := ⟨by', _, none⟩) hby).trans e0, (h5.cell (p := ⟨by', _, none⟩) hby).trans e1, (h5.cell (p := ⟨by', _, none⟩) hby).trans e2, (h5.cell (p := ⟨by', _, none⟩) hby).trans e3⟩
            clear e0 e1 e2 e3
            obtain ⟨_, ⟨c0, c1', c2', c3'⟩, d0, d1, d2, d3⟩ := HKeep.out wr wr hV.out (Below.refl _ wr)
            have n2' : (m : Int) < (l.length : Int) := by omega
            have n3' : (0 : Int) ≤ (m : Int) := Int.natCast_nonneg _
            have HW0 := within_any x y
            rcases hprt.out k x HX.out m y HY.out with hz | ⟨hz, hz0⟩
            · have hz2 : (x &&& y == x) = true := by rw [hz]; simp
              rw [hz2] at HW0
              have HW := HW0
              clear HW0 hz hz2
              have hN : ∀ w : World, Below w.heap.size w w := fun w => Below.refl _ w
              go_wp2_with fail
              refine wp_region_vals0 (N := fun W W' => Below W.heap.size W W') (S := fun W => Below w3.heap.size w3 W)
                [Value.slice (some { block := g1, off := 0 }) L.length c1, Value.int IntKind.i64 ↑k, .pointer (some ⟨g1, k * 4, none⟩), vset x, Value.slice (some { block := by', off := oy }) l.length cs, Value.int IntKind.i64 ↑m, .pointer (some ⟨by', oy + m * 4, none⟩), vset y, .bool true, .bool false, .bool false, undef, undef, undef, undef, undef, undef, undef, undef, undef, undef, undef, .bool false]
                #[Value.agg #[Value.int IntKind.u64 (wdI a 0), Value.int IntKind.u64 (wdI a 1), Value.int IntKind.u64 (wdI a 2), Value.int IntKind.u64 (wdI a 3)], Value.slice (some { block := by', off := oy }) l.length cs, Value.string t, Value.pointer (some { block := nA, off := 0 }), undef, undef, u6, Value.pointer (some { block := nS, off := 0 }), u8, Value.pointer (some { block := nT, off := 0 }), Value.int IntKind.i64 0, Value.pointer (some { block := nU, off := 0 }), Value.int IntKind.i64 ev, u13, u14, Value.slice (some { block := g1, off := 0 }) L.length c1, Value.int IntKind.i64 (↑ck + ↑cx), Value.int IntKind.i64 ↑k, Value.int IntKind.i64 ↑m, undef, undef, u21, u22, u23, u24, u25, u26, u27, u28, u29, u30, u31, u32, u33, u34, u35, u36, u37, u38, u39, u40, u41, u42, u43, u44, u45, u46, u47, u48, u49, u50, u51, u52, u53, u54, u55, u56, u57, u58, u59, u60, u61, u62, u63, u64, u65, u66, u67, u68, u69, u70, u71, u72, u73, u74, u75, u76, u77, u78, u79, u80, u81, u82, u83, u84, Value.slice (some { block := by', off := oy }) l.length cs, Value.slice (some { block := g1, off := 0 }) L.length c1, Value.int IntKind.i64 ↑k, Value.slice (some { block := g1, off := 0 }) L.length c1, Value.int IntKind.i64 ↑L.length, Value.bool true, u91, u92, Value.int IntKind.i64 ↑ck, Value.slice (some { block := g1, off := 0 }) L.length c1, Value.int IntKind.i64 ↑k, Value.pointer (some { block := g1, off := k * 4 }), Value.agg #[Value.int IntKind.u64 (wdI x 0), Value.int IntKind.u64 (wdI x 1), Value.int IntKind.u64 (wdI x 2), Value.int IntKind.u64 (wdI x 3)], Value.int IntKind.i64 ↑cx, Value.int IntKind.i64 (↑ck + ↑cx), Value.int IntKind.i64 ↑m, Value.slice (some { block := by', off := oy }) l.length cs, Value.int IntKind.i64 ↑l.length, Value.bool true, u104, u105, Value.slice (some { block := g1, off := 0 }) L.length c1, Value.int IntKind.i64 ↑k, .pointer (some ⟨g1, k * 4, none⟩), vset x, Value.slice (some { block := by', off := oy }) l.length cs, Value.int IntKind.i64 ↑m, .pointer (some ⟨by', oy + m * 4, none⟩), vset y, .bool true, .bool false, .bool false, undef, undef, undef, undef, undef, undef, undef, undef, undef, undef, undef, .bool false, u129, u130, u131, u132, u133, u134, u135, u136, u137, u138, u139, u140, u141, u142, u143, u144, u145, u146, u147, u148, u149, u150, u151, u152, u153, u154, u155, u156, u157, u158, u159, u160, u161, u162, u163, u164, u165, u166, u167, u168, u169, u170, u171, u172, u173, u174, u175, u176, u177, u178, u179, u180, u181, u182, u183, u184, u185, u186, u187, u188, u189, u190, u191, u192, u193, u194, u195, u196, u197, u198, u199, u200, u201, u202, u203, u204, u205]
                rfl (by kernel_rfl) (by kernel_rfl) (by kernel_rfl) hN hV.out.drew (fun W W' h hB => h.trans (hB.mono h.size)) ?_ ?_
              · refine Each.val 106 (Value.slice (some { block := g1, off := 0 }) L.length c1) (by kernel_rfl) (by kernel_rfl) (by kernel_rfl) hN (fun _ _ _ => by kernel_rfl) ?_
                refine Each.val 107 (Value.int IntKind.i64 ↑k) (by kernel_rfl) (by kernel_rfl) (by kernel_rfl) hN (fun _ _ _ => by kernel_rfl) ?_
                refine Each.val 108 (.pointer (some ⟨g1, k * 4, none⟩)) (by kernel_rfl) (by kernel_rfl) (by kernel_rfl) hN (fun W hS _ => ex_index (g := g1) (f := 0) (n := L.length) (c := c1) (k := k) (q := k * 4) rfl (by kernel_rfl) (by kernel_rfl) hlt (Nat.zero_add _)) ?_
                refine Each.val 109 (vset x) (by kernel_rfl) (by kernel_rfl) (by kernel_rfl) hN (fun W hS _ => ex_loadAt (z := x) rfl (by kernel_rfl) (HKeep.out W W hS (Below.refl _ W)).2.1.1 (HKeep.out W W hS (Below.refl _ W)).2.1.2.1 (HKeep.out W W hS (Below.refl _ W)).2.1.2.2.1 (HKeep.out W W hS (Below.refl _ W)).2.1.2.2.2) ?_
                refine Each.val 110 (Value.slice (some { block := by', off := oy }) l.length cs) (by kernel_rfl) (by kernel_rfl) (by kernel_rfl) hN (fun _ _ _ => by kernel_rfl) ?_
                refine Each.val 111 (Value.int IntKind.i64 ↑m) (by kernel_rfl) (by kernel_rfl) (by kernel_rfl) hN (fun _ _ _ => by kernel_rfl) ?_
                refine Each.val 112 (.pointer (some ⟨by', oy + m * 4, none⟩)) (by kernel_rfl) (by kernel_rfl) (by kernel_rfl) hN (fun W hS _ => ex_index (g := by') (f := oy) (n := l.length) (c := cs) (k := m) (q := oy + m * 4) rfl (by kernel_rfl) (by kernel_rfl) hmlt rfl) ?_
                refine Each.val 113 (vset y) (by kernel_rfl) (by kernel_rfl) (by kernel_rfl) hN (fun W hS _ => ex_loadAt (z := y) rfl (by kernel_rfl) (HKeep.out W W hS (Below.refl _ W)).2.2.1 (HKeep.out W W hS (Below.refl _ W)).2.2.2.1 (HKeep.out W W hS (Below.refl _ W)).2.2.2.2.1 (HKeep.out W W hS (Below.refl _ W)).2.2.2.2.2) ?_
                refine Each.call 114 (.bool true) 30 #[vset x, vset y] (by kernel_rfl) (by kernel_rfl) (by kernel_rfl) (fun _ _ => by kernel_rfl) (fun W hS => HW W) ?_
                refine Each.val 115 (.bool false) (by kernel_rfl) (by kernel_rfl) (by kernel_rfl) hN (fun _ _ _ => by kernel_rfl) ?_
                refine Each.val 116 (.bool false) (by kernel_rfl) (by kernel_rfl) (by kernel_rfl) hN (fun _ _ _ => by kernel_rfl) ?_
                refine Each.off 117 (by kernel_rfl) (by kernel_rfl) (by kernel_rfl) ?_
                refine Each.off 118 (by kernel_rfl) (by kernel_rfl) (by kernel_rfl) ?_
                refine Each.off 119 (by kernel_rfl) (by kernel_rfl) (by kernel_rfl) ?_
                refine Each.off 120 (by kernel_rfl) (by kernel_rfl) (by kernel_rfl) ?_
                refine Each.off 121 (by kernel_rfl) (by kernel_rfl) (by kernel_rfl) ?_
                refine Each.off 122 (by kernel_rfl) (by kernel_rfl) (by kernel_rfl) ?_
                refine Each.off 123 (by kernel_rfl) (by kernel_rfl) (by kernel_rfl) ?_
                refine Each.off 124 (by kernel_rfl) (by kernel_rfl) (by kernel_rfl) ?_
                refine Each.off 125 (by kernel_rfl) (by kernel_rfl) (by kernel_rfl) ?_
                refine Each.off 126 (by kernel_rfl) (by kernel_rfl) (by kernel_rfl) ?_
                refine Each.off 127 (by kernel_rfl) (by kernel_rfl) (by kernel_rfl) ?_
                refine Each.val 128 (.bool false) (by kernel_rfl) (by kernel_rfl) (by kernel_rfl) hN (fun _ _ _ => by kernel_rfl) ?_
                exact trivial
              · intro w' hS
                have HBX := Lib.hid hS
                clear hS hN HKeep
                go_wp2
                go_roundw
                case rel => exact ⟨m + 1, by go_num, by omega, HBX⟩
                case measure => simp [intOf]; omega
            · have HM := meet_any x y
              rw [hz] at HW0
              rw [hz0] at HM
              have HW := HW0
              clear HW0 hz hz0
              have hN : ∀ w : World, Below w.heap.size w w := fun w => Below.refl _ w
              go_wp2_with fail
              refine wp_region_vals0 (N := fun W W' => Below W.heap.size W W') (S := fun W => Below w3.heap.size w3 W)
                [Value.slice (some { block := g1, off := 0 }) L.length c1, Value.int IntKind.i64 ↑k, .pointer (some ⟨g1, k * 4, none⟩), vset x, Value.slice (some { block := by', off := oy }) l.length cs, Value.int IntKind.i64 ↑m, .pointer (some ⟨by', oy + m * 4, none⟩), vset y, .bool false, .bool true, .bool true, Value.slice (some { block := g1, off := 0 }) L.length c1, Value.int IntKind.i64 ↑k, .pointer (some ⟨g1, k * 4, none⟩), vset x, Value.slice (some { block := by', off := oy }) l.length cs, Value.int IntKind.i64 ↑m, .pointer (some ⟨by', oy + m * 4, none⟩), vset y, vset 0#256, vset 0#256, .bool false, .bool false]
                #[Value.agg #[Value.int IntKind.u64 (wdI a 0), Value.int IntKind.u64 (wdI a 1), Value.int IntKind.u64 (wdI a 2), Value.int IntKind.u64 (wdI a 3)], Value.slice (some { block := by', off := oy }) l.length cs, Value.string t, Value.pointer (some { block := nA, off := 0 }), undef, undef, u6, Value.pointer (some { block := nS, off := 0 }), u8, Value.pointer (some { block := nT, off := 0 }), Value.int IntKind.i64 0, Value.pointer (some { block := nU, off := 0 }), Value.int IntKind.i64 ev, u13, u14, Value.slice (some { block := g1, off := 0 }) L.length c1, Value.int IntKind.i64 (↑ck + ↑cx), Value.int IntKind.i64 ↑k, Value.int IntKind.i64 ↑m, undef, undef, u21, u22, u23, u24, u25, u26, u27, u28, u29, u30, u31, u32, u33, u34, u35, u36, u37, u38, u39, u40, u41, u42, u43, u44, u45, u46, u47, u48, u49, u50, u51, u52, u53, u54, u55, u56, u57, u58, u59, u60, u61, u62, u63, u64, u65, u66, u67, u68, u69, u70, u71, u72, u73, u74, u75, u76, u77, u78, u79, u80, u81, u82, u83, u84, Value.slice (some { block := by', off := oy }) l.length cs, Value.slice (some { block := g1, off := 0 }) L.length c1, Value.int IntKind.i64 ↑k, Value.slice (some { block := g1, off := 0 }) L.length c1, Value.int IntKind.i64 ↑L.length, Value.bool true, u91, u92, Value.int IntKind.i64 ↑ck, Value.slice (some { block := g1, off := 0 }) L.length c1, Value.int IntKind.i64 ↑k, Value.pointer (some { block := g1, off := k * 4 }), Value.agg #[Value.int IntKind.u64 (wdI x 0), Value.int IntKind.u64 (wdI x 1), Value.int IntKind.u64 (wdI x 2), Value.int IntKind.u64 (wdI x 3)], Value.int IntKind.i64 ↑cx, Value.int IntKind.i64 (↑ck + ↑cx), Value.int IntKind.i64 ↑m, Value.slice (some { block := by', off := oy }) l.length cs, Value.int IntKind.i64 ↑l.length, Value.bool true, u104, u105, Value.slice (some { block := g1, off := 0 }) L.length c1, Value.int IntKind.i64 ↑k, .pointer (some ⟨g1, k * 4, none⟩), vset x, Value.slice (some { block := by', off := oy }) l.length cs, Value.int IntKind.i64 ↑m, .pointer (some ⟨by', oy + m * 4, none⟩), vset y, .bool false, .bool true, .bool true, Value.slice (some { block := g1, off := 0 }) L.length c1, Value.int IntKind.i64 ↑k, .pointer (some ⟨g1, k * 4, none⟩), vset x, Value.slice (some { block := by', off := oy }) l.length cs, Value.int IntKind.i64 ↑m, .pointer (some ⟨by', oy + m * 4, none⟩), vset y, vset 0#256, vset 0#256, .bool false, .bool false, u129, u130, u131, u132, u133, u134, u135, u136, u137, u138, u139, u140, u141, u142, u143, u144, u145, u146, u147, u148, u149, u150, u151, u152, u153, u154, u155, u156, u157, u158, u159, u160, u161, u162, u163, u164, u165, u166, u167, u168, u169, u170, u171, u172, u173, u174, u175, u176, u177, u178, u179, u180, u181, u182, u183, u184, u185, u186, u187, u188, u189, u190, u191, u192, u193, u194, u195, u196, u197, u198, u199, u200, u201, u202, u203, u204, u205]
                rfl (by kernel_rfl) (by kernel_rfl) (by kernel_rfl) hN hV.out.drew (fun W W' h hB => h.trans (hB.mono h.size)) ?_ ?_
              · refine Each.val 106 (Value.slice (some { block := g1, off := 0 }) L.length c1) (by kernel_rfl) (by kernel_rfl) (by kernel_rfl) hN (fun _ _ _ => by kernel_rfl) ?_
                refine Each.val 107 (Value.int IntKind.i64 ↑k) (by kernel_rfl) (by kernel_rfl) (by kernel_rfl) hN (fun _ _ _ => by kernel_rfl) ?_
                refine Each.val 108 (.pointer (some ⟨g1, k * 4, none⟩)) (by kernel_rfl) (by kernel_rfl) (by kernel_rfl) hN (fun W hS _ => ex_index (g := g1) (f := 0) (n := L.length) (c := c1) (k := k) (q := k * 4) rfl (by kernel_rfl) (by kernel_rfl) hlt (Nat.zero_add _)) ?_
                refine Each.val 109 (vset x) (by kernel_rfl) (by kernel_rfl) (by kernel_rfl) hN (fun W hS _ => ex_loadAt (z := x) rfl (by kernel_rfl) (HKeep.out W W hS (Below.refl _ W)).2.1.1 (HKeep.out W W hS (Below.refl _ W)).2.1.2.1 (HKeep.out W W hS (Below.refl _ W)).2.1.2.2.1 (HKeep.out W W hS (Below.refl _ W)).2.1.2.2.2) ?_
                refine Each.val 110 (Value.slice (some { block := by', off := oy }) l.length cs) (by kernel_rfl) (by kernel_rfl) (by kernel_rfl) hN (fun _ _ _ => by kernel_rfl) ?_
                refine Each.val 111 (Value.int IntKind.i64 ↑m) (by kernel_rfl) (by kernel_rfl) (by kernel_rfl) hN (fun _ _ _ => by kernel_rfl) ?_
                refine Each.val 112 (.pointer (some ⟨by', oy + m * 4, none⟩)) (by kernel_rfl) (by kernel_rfl) (by kernel_rfl) hN (fun W hS _ => ex_index (g := by') (f := oy) (n := l.length) (c := cs) (k := m) (q := oy + m * 4) rfl (by kernel_rfl) (by kernel_rfl) hmlt rfl) ?_
                refine Each.val 113 (vset y) (by kernel_rfl) (by kernel_rfl) (by kernel_rfl) hN (fun W hS _ => ex_loadAt (z := y) rfl (by kernel_rfl) (HKeep.out W W hS (Below.refl _ W)).2.2.1 (HKeep.out W W hS (Below.refl _ W)).2.2.2.1 (HKeep.out W W hS (Below.refl _ W)).2.2.2.2.1 (HKeep.out W W hS (Below.refl _ W)).2.2.2.2.2) ?_
                refine Each.call 114 (.bool false) 30 #[vset x, vset y] (by kernel_rfl) (by kernel_rfl) (by kernel_rfl) (fun _ _ => by kernel_rfl) (fun W hS => HW W) ?_
                refine Each.val 115 (.bool true) (by kernel_rfl) (by kernel_rfl) (by kernel_rfl) hN (fun _ _ _ => by kernel_rfl) ?_
                refine Each.val 116 (.bool true) (by kernel_rfl) (by kernel_rfl) (by kernel_rfl) hN (fun _ _ _ => by kernel_rfl) ?_
                refine Each.val 117 (Value.slice (some { block := g1, off := 0 }) L.length c1) (by kernel_rfl) (by kernel_rfl) (by kernel_rfl) hN (fun _ _ _ => by kernel_rfl) ?_
                refine Each.val 118 (Value.int IntKind.i64 ↑k) (by kernel_rfl) (by kernel_rfl) (by kernel_rfl) hN (fun _ _ _ => by kernel_rfl) ?_
                refine Each.val 119 (.pointer (some ⟨g1, k * 4, none⟩)) (by kernel_rfl) (by kernel_rfl) (by kernel_rfl) hN (fun W hS _ => ex_index (g := g1) (f := 0) (n := L.length) (c := c1) (k := k) (q := k * 4) rfl (by kernel_rfl) (by kernel_rfl) hlt (Nat.zero_add _)) ?_
                refine Each.val 120 (vset x) (by kernel_rfl) (by kernel_rfl) (by kernel_rfl) hN (fun W hS _ => ex_loadAt (z := x) rfl (by kernel_rfl) (HKeep.out W W hS (Below.refl _ W)).2.1.1 (HKeep.out W W hS (Below.refl _ W)).2.1.2.1 (HKeep.out W W hS (Below.refl _ W)).2.1.2.2.1 (HKeep.out W W hS (Below.refl _ W)).2.1.2.2.2) ?_
                refine Each.val 121 (Value.slice (some { block := by', off := oy }) l.length cs) (by kernel_rfl) (by kernel_rfl) (by kernel_rfl) hN (fun _ _ _ => by kernel_rfl) ?_
                refine Each.val 122 (Value.int IntKind.i64 ↑m) (by kernel_rfl) (by kernel_rfl) (by kernel_rfl) hN (fun _ _ _ => by kernel_rfl) ?_
                refine Each.val 123 (.pointer (some ⟨by', oy + m * 4, none⟩)) (by kernel_rfl) (by kernel_rfl) (by kernel_rfl) hN (fun W hS _ => ex_index (g := by') (f := oy) (n := l.length) (c := cs) (k := m) (q := oy + m * 4) rfl (by kernel_rfl) (by kernel_rfl) hmlt rfl) ?_
                refine Each.val 124 (vset y) (by kernel_rfl) (by kernel_rfl) (by kernel_rfl) hN (fun W hS _ => ex_loadAt (z := y) rfl (by kernel_rfl) (HKeep.out W W hS (Below.refl _ W)).2.2.1 (HKeep.out W W hS (Below.refl _ W)).2.2.2.1 (HKeep.out W W hS (Below.refl _ W)).2.2.2.2.1 (HKeep.out W W hS (Below.refl _ W)).2.2.2.2.2) ?_
                refine Each.call 125 (vset 0#256) 26 #[vset x, vset y] (by kernel_rfl) (by kernel_rfl) (by kernel_rfl) (fun _ _ => by kernel_rfl) (fun W hS => HM W) ?_
                refine Each.val 126 (vset 0#256) (by kernel_rfl) (by kernel_rfl) (by kernel_rfl) hN (fun W hS _ => ex_zero29 rfl) ?_
                refine Each.val 127 (.bool false) (by kernel_rfl) (by kernel_rfl) (by kernel_rfl) hN (fun W hS _ => ex_neT (s := 0#256) rfl (by kernel_rfl) (by kernel_rfl)) ?_
                refine Each.val 128 (.bool false) (by kernel_rfl) (by kernel_rfl) (by kernel_rfl) hN (fun _ _ _ => by kernel_rfl) ?_
                exact trivial
              · intro w' hS
                have HBX := Lib.hid hS
                clear hS hN HKeep
                go_wp2
                go_roundw
                case rel => exact ⟨m + 1, by go_num, by omega, HBX⟩
                case measure => simp [intOf]; omega
          · obtain rfl : m = l.length := by omega
            have HV2 := Lib.hid (HB3.out.trans (hV.out.mono HB3.out.size))
            clear hV P0 P1 P2 P3
            go_wp2
            go_roundw
            case rel => exact ⟨k + 1, by go_num, by omega, by rw [HC.out]; go_num, HV2⟩
            case measure => simp [intOf]; omega
      · obtain rfl : k = L.length := by omega
        have e256 : cntTo L L.length = 256 := by unfold cntTo; rw [List.take_length]; exact hsum.out
        rw [e256]
        have e25 : ((256 : Nat) : Int) = 256 := rfl
        rw [e25]
        have HB2 := Lib.hid (HB1.out.trans (hW.out.mono HB1.out.size))
        have HA2 := Lib.hid (HA1.out.below hW.out HA1.out.lt)
        clear hct hW HO1 HB1 HA1 e256 e25
        obtain ⟨wo, rfl⟩ : ∃ wo : World, wo = wr := ⟨_, rfl⟩
        go_wp2
        go_loopw [19] (fun i wr => ∃ m : Nat, i = .int .i64 m ∧ m ≤ l.length ∧ Hid (Below wo.heap.size wo wr))
          (fun i _ => l.length - (intOf i).toNat)
        case atStart => exact ⟨0, rfl, Nat.zero_le _, Below.refl _ _⟩
        case round =>
          obtain ⟨m, rfl, hm, hV⟩ := hrel
          have HA3 := Lib.hid (HA2.out.below hV.out HA2.out.lt)
          have HB3 := Lib.hid (HB2.out.trans (hV.out.mono HB2.out.size))
          by_cases hmlt : m < l.length
          · have HY : Hid (l[m]? = some l[m]) := Lib.hid (List.getElem?_eq_getElem hmlt)
            obtain ⟨y, hy⟩ : ∃ y, l[m] = y := ⟨_, rfl⟩
            rw [hy] at HY
            clear hy
            obtain ⟨by', oy, rfl, e0, e1, e2, e3⟩ := HD.out m y HY.out
            have hby := lt_of_cell e0
            have d0 : wr.cell? ⟨by', oy + m * 4, none⟩ = some (.int .u64 (wdI y 0)) := (HB3.out.cell (p := ⟨by', _, none⟩) hby).trans e0
            have d1 : wr.cell? ⟨by', oy + m * 4 + 1, none⟩ = some (.int .u64 (wdI y 1)) := (HB3.out.cell (p := ⟨by', _, none⟩) hby).trans e1
            have d2 : wr.cell? ⟨by', oy + m * 4 + 2, none⟩ = some (.int .u64 (wdI y 2)) := (HB3.out.cell (p := ⟨by', _, none⟩) hby).trans e2
            have d3 : wr.cell? ⟨by', oy + m * 4 + 3, none⟩ = some (.int .u64 (wdI y 3)) := (HB3.out.cell (p := ⟨by', _, none⟩) hby).trans e3
            clear e0 e1 e2 e3
            have n2' : (m : Int) < (l.length : Int) := by omega
            have n3' : (0 : Int) ≤ (m : Int) := Int.natCast_nonneg _
            go_wp2_with fail
            have hN : ∀ w : World, Below w.heap.size w w := fun w => Below.refl _ w
            obtain ⟨nY, hnY⟩ : ∃ nY, nY = wr.heap.size := ⟨_, rfl⟩
            obtain ⟨wy, hwy⟩ : ∃ wy : World, wy = wr.alloc (.cells (cset y) 29) := ⟨_, rfl⟩
            have hwy2 : wr.alloc (.cells #[.int .u64 (wdI y 0), .int .u64 (wdI y 1), .int .u64 (wdI y 2), .int .u64 (wdI y 3)] 29) = wy := hwy.symm
            have HAy : Hid (Blk wy nA 29 (cset a)) := Lib.hid (by rw [hwy]; exact HA3.out.alloc _)
            have HYy : Hid (Blk wy nY 29 (cset y)) := Lib.hid (by rw [hwy, hnY]; exact Blk.new wr 29 (cset y))
            have HBy : Hid (Below wo.heap.size wo wy) := Lib.hid (by rw [hwy]; exact hV.out.alloc hV.out.size _)
            rw [hwy2, ← hnY]
            have AA : ∀ W, Below wy.heap.size wy W → Blk W nA 29 (cset a) := fun W h => HAy.out.below h HAy.out.lt
            have AB : ∀ W, Below wy.heap.size wy W → Blk W nY 29 (cset y) := fun W h => HYy.out.below h HYy.out.lt
            clear hwy hwy2 hnY HAy HYy HA3 HB3 hV d0 d1 d2 d3
            cases hp : (a &&& y == a) with
            | true =>
              refine wp_region_vals (N := fun W W' => Below W.heap.size W W') (S := fun W => Below wy.heap.size wy W) [141, 167, 179] (fun t v W => ∃ n, v = .slice (some ⟨n, 0, none⟩) 2 2 ∧ Blk W n 29 (if t = 167 then cells2 (a &&& ~~~y) (a &&& y) else cells2 a y))
                [vset a, vset y, undef, vset (a ||| y), vset (~~~(a ||| y)), vset a, vset (~~~a), vset y, vset (~~~y), vset (~~~(a ||| y)), .bool false, .bool false, vset a, vset y, vset (a &&& ~~~y), vset a, vset y, vset (~~~y), vset (a &&& ~~~y), .bool false, .bool false, .bool false, vset a, vset y, vset (a &&& ~~~y), vset a, vset y, vset (a &&& y), undef, vset a, vset a, .bool false, .bool false, .bool false, vset a, vset y, .bool true, .bool true, vset a, vset y, undef, vset y, vset y, .bool false, .bool false, .bool false]
                #[Value.agg #[Value.int IntKind.u64 (wdI a 0), Value.int IntKind.u64 (wdI a 1), Value.int IntKind.u64 (wdI a 2), Value.int IntKind.u64 (wdI a 3)], Value.slice (some { block := by', off := oy }) l.length cs, Value.string t, Value.pointer (some { block := nA, off := 0 }), undef, undef, u6, Value.pointer (some { block := nS, off := 0 }), u8, Value.pointer (some { block := nT, off := 0 }), Value.int IntKind.i64 0, Value.pointer (some { block := nU, off := 0 }), Value.int IntKind.i64 ev, u13, u14, Value.slice (some { block := g1, off := 0 }) L.length c1, Value.int IntKind.i64 256, Value.int IntKind.i64 ↑L.length, u18, Value.int IntKind.i64 ↑m, Value.pointer (some { block := nY, off := 0 }), u21, u22, u23, u24, u25, u26, u27, u28, u29, u30, u31, u32, u33, u34, u35, u36, u37, u38, u39, u40, u41, u42, u43, u44, u45, u46, u47, u48, u49, u50, u51, u52, u53, u54, u55, u56, u57, u58, u59, u60, u61, u62, u63, u64, u65, u66, u67, u68, u69, u70, u71, u72, u73, u74, u75, u76, u77, u78, u79, u80, u81, u82, u83, u84, Value.slice (some { block := by', off := oy }) l.length cs, Value.slice (some { block := g1, off := 0 }) L.length c1, Value.int IntKind.i64 ↑L.length, Value.slice (some { block := g1, off := 0 }) L.length c1, Value.int IntKind.i64 ↑L.length, Value.bool false, u91, u92, u93, u94, u95, u96, u97, u98, u99, u100, u101, u102, u103, u104, u105, u106, u107, u108, u109, u110, u111, u112, u113, u114, u115, u116, u117, u118, u119, u120, u121, u122, u123, u124, u125, u126, u127, u128, Value.int IntKind.i64 ↑m, Value.slice (some { block := by', off := oy }) l.length cs, Value.int IntKind.i64 ↑l.length, Value.bool true, u133, u134, Value.slice (some { block := by', off := oy }) l.length cs, Value.int IntKind.i64 ↑m, Value.pointer (some { block := by', off := oy + m * 4 }), Value.agg #[Value.int IntKind.u64 (wdI y 0), Value.int IntKind.u64 (wdI y 1), Value.int IntKind.u64 (wdI y 2), Value.int IntKind.u64 (wdI y 3)], vset a, vset y, undef, vset (a ||| y), vset (~~~(a ||| y)), vset a, vset (~~~a), vset y, vset (~~~y), vset (~~~(a ||| y)), .bool false, .bool false, vset a, vset y, vset (a &&& ~~~y), vset a, vset y, vset (~~~y), vset (a &&& ~~~y), .bool false, .bool false, .bool false, vset a, vset y, vset (a &&& ~~~y), vset a, vset y, vset (a &&& y), undef, vset a, vset a, .bool false, .bool false, .bool false, vset a, vset y, .bool true, .bool true, vset a, vset y, undef, vset y, vset y, .bool false, .bool false, .bool false, u185, u186, u187, u188, u189, u190, u191, u192, u193, u194, u195, u196, u197, u198, u199, u200, u201, u202, u203, u204, u205]
                rfl (by kernel_rfl) (by kernel_rfl) (by kernel_rfl) (by kernel_rfl) hN (Below.refl _ wy).drew (fun W W' h hB => h.trans (hB.mono h.size)) (fun _ _ v W W' h hB => h.imp fun n h => ⟨h.1, h.2.below hB h.2.lt⟩) ?_ ?_
              · refine Each.val 139 (vset a) (by kernel_rfl) (by kernel_rfl) (by kernel_rfl) hN (fun W hS _ => ex_load rfl (by kernel_rfl) (AA W hS)) ?_
                refine Each.val 140 (vset y) (by kernel_rfl) (by kernel_rfl) (by kernel_rfl) hN (fun W hS _ => ex_load rfl (by kernel_rfl) (AB W hS)) ?_
                refine Each.makes 141 (by kernel_rfl) (by kernel_rfl) (by kernel_rfl) (by kernel_rfl) (by kernel_rfl) (fun W hS _ => ⟨_, _, ex_slice2 (a := a) (b := y) rfl (by kernel_rfl) (by kernel_rfl), (Below.refl _ W).alloc (Nat.le_refl _) _, _, rfl, Blk.new W 29 _⟩) ?_
                refine Each.callLoose 142 141 (vset (a ||| y)) 20 (by kernel_rfl) (by kernel_rfl) (by kernel_rfl) (by kernel_rfl) (by kernel_rfl) (by kernel_rfl) (by kernel_rfl) (by kernel_rfl) (fun _ _ => by kernel_rfl) (fun W x hS hx => u2_call hx) ?_
                refine Each.call 143 (vset (~~~(a ||| y))) 29 #[vset (a ||| y)] (by kernel_rfl) (by kernel_rfl) (by kernel_rfl) (fun _ _ => by kernel_rfl) (fun W hS => not_any _ W) ?_
                refine Each.val 144 (vset a) (by kernel_rfl) (by kernel_rfl) (by kernel_rfl) hN (fun W hS _ => ex_load rfl (by kernel_rfl) (AA W hS)) ?_
                refine Each.call 145 (vset (~~~a)) 29 #[vset a] (by kernel_rfl) (by kernel_rfl) (by kernel_rfl) (fun _ _ => by kernel_rfl) (fun W hS => not_any _ W) ?_
                refine Each.val 146 (vset y) (by kernel_rfl) (by kernel_rfl) (by kernel_rfl) hN (fun W hS _ => ex_load rfl (by kernel_rfl) (AB W hS)) ?_
                refine Each.call 147 (vset (~~~y)) 29 #[vset y] (by kernel_rfl) (by kernel_rfl) (by kernel_rfl) (fun _ _ => by kernel_rfl) (fun W hS => not_any _ W) ?_
                refine Each.call 148 (vset (~~~(a ||| y))) 26 #[vset (~~~a), vset (~~~y)] (by kernel_rfl) (by kernel_rfl) (by kernel_rfl) (fun _ _ => by kernel_rfl) (fun W hS => mcE (bk1 a y) W) ?_
                refine Each.val 149 (.bool false) (by kernel_rfl) (by kernel_rfl) (by kernel_rfl) hN (fun W hS _ => ex_neT (s := ~~~(a ||| y)) rfl (by kernel_rfl) (by kernel_rfl)) ?_
                refine Each.val 150 (.bool false) (by kernel_rfl) (by kernel_rfl) (by kernel_rfl) hN (fun _ _ _ => by kernel_rfl) ?_
                refine Each.val 151 (vset a) (by kernel_rfl) (by kernel_rfl) (by kernel_rfl) hN (fun W hS _ => ex_load rfl (by kernel_rfl) (AA W hS)) ?_
                refine Each.val 152 (vset y) (by kernel_rfl) (by kernel_rfl) (by kernel_rfl) hN (fun W hS _ => ex_load rfl (by kernel_rfl) (AB W hS)) ?_
                refine Each.call 153 (vset (a &&& ~~~y)) 28 #[vset a, vset y] (by kernel_rfl) (by kernel_rfl) (by kernel_rfl) (fun _ _ => by kernel_rfl) (fun W hS => without_any _ _ W) ?_
                refine Each.val 154 (vset a) (by kernel_rfl) (by kernel_rfl) (by kernel_rfl) hN (fun W hS _ => ex_load rfl (by kernel_rfl) (AA W hS)) ?_
                refine Each.val 155 (vset y) (by kernel_rfl) (by kernel_rfl) (by kernel_rfl) hN (fun W hS _ => ex_load rfl (by kernel_rfl) (AB W hS)) ?_
                refine Each.call 156 (vset (~~~y)) 29 #[vset y] (by kernel_rfl) (by kernel_rfl) (by kernel_rfl) (fun _ _ => by kernel_rfl) (fun W hS => not_any _ W) ?_
                refine Each.call 157 (vset (a &&& ~~~y)) 26 #[vset a, vset (~~~y)] (by kernel_rfl) (by kernel_rfl) (by kernel_rfl) (fun _ _ => by kernel_rfl) (fun W hS => meet_any _ _ W) ?_
                refine Each.val 158 (.bool false) (by kernel_rfl) (by kernel_rfl) (by kernel_rfl) hN (fun W hS _ => ex_neT (s := a &&& ~~~y) rfl (by kernel_rfl) (by kernel_rfl)) ?_
                refine Each.val 159 (.bool false) (by kernel_rfl) (by kernel_rfl) (by kernel_rfl) hN (fun _ _ _ => by kernel_rfl) ?_
                refine Each.val 160 (.bool false) (by kernel_rfl) (by kernel_rfl) (by kernel_rfl) hN (fun _ _ _ => by kernel_rfl) ?_
                refine Each.val 161 (vset a) (by kernel_rfl) (by kernel_rfl) (by kernel_rfl) hN (fun W hS _ => ex_load rfl (by kernel_rfl) (AA W hS)) ?_
                refine Each.val 162 (vset y) (by kernel_rfl) (by kernel_rfl) (by kernel_rfl) hN (fun W hS _ => ex_load rfl (by kernel_rfl) (AB W hS)) ?_
                refine Each.call 163 (vset (a &&& ~~~y)) 28 #[vset a, vset y] (by kernel_rfl) (by kernel_rfl) (by kernel_rfl) (fun _ _ => by kernel_rfl) (fun W hS => without_any _ _ W) ?_
                refine Each.val 164 (vset a) (by kernel_rfl) (by kernel_rfl) (by kernel_rfl) hN (fun W hS _ => ex_load rfl (by kernel_rfl) (AA W hS)) ?_
                refine Each.val 165 (vset y) (by kernel_rfl) (by kernel_rfl) (by kernel_rfl) hN (fun W hS _ => ex_load rfl (by kernel_rfl) (AB W hS)) ?_
                refine Each.call 166 (vset (a &&& y)) 26 #[vset a, vset y] (by kernel_rfl) (by kernel_rfl) (by kernel_rfl) (fun _ _ => by kernel_rfl) (fun W hS => meet_any _ _ W) ?_
                refine Each.makes 167 (by kernel_rfl) (by kernel_rfl) (by kernel_rfl) (by kernel_rfl) (by kernel_rfl) (fun W hS _ => ⟨_, _, ex_slice2 (a := a &&& ~~~y) (b := a &&& y) rfl (by kernel_rfl) (by kernel_rfl), (Below.refl _ W).alloc (Nat.le_refl _) _, _, rfl, Blk.new W 29 _⟩) ?_
                refine Each.callLoose 168 167 (vset a) 20 (by kernel_rfl) (by kernel_rfl) (by kernel_rfl) (by kernel_rfl) (by kernel_rfl) (by kernel_rfl) (by kernel_rfl) (by kernel_rfl) (fun _ _ => by kernel_rfl) (fun W x hS hx => u2_callE (bk2 a y) hx) ?_
                refine Each.val 169 (vset a) (by kernel_rfl) (by kernel_rfl) (by kernel_rfl) hN (fun W hS _ => ex_load rfl (by kernel_rfl) (AA W hS)) ?_
                refine Each.val 170 (.bool false) (by kernel_rfl) (by kernel_rfl) (by kernel_rfl) hN (fun W hS _ => ex_neT (s := a) rfl (by kernel_rfl) (by kernel_rfl)) ?_
                refine Each.val 171 (.bool false) (by kernel_rfl) (by kernel_rfl) (by kernel_rfl) hN (fun _ _ _ => by kernel_rfl) ?_
                refine Each.val 172 (.bool false) (by kernel_rfl) (by kernel_rfl) (by kernel_rfl) hN (fun _ _ _ => by kernel_rfl) ?_
                refine Each.val 173 (vset a) (by kernel_rfl) (by kernel_rfl) (by kernel_rfl) hN (fun W hS _ => ex_load rfl (by kernel_rfl) (AA W hS)) ?_
                refine Each.val 174 (vset y) (by kernel_rfl) (by kernel_rfl) (by kernel_rfl) hN (fun W hS _ => ex_load rfl (by kernel_rfl) (AB W hS)) ?_
                refine Each.call 175 (.bool true) 30 #[vset a, vset y] (by kernel_rfl) (by kernel_rfl) (by kernel_rfl) (fun _ _ => by kernel_rfl) (fun W hS => icE hp W) ?_
                refine Each.val 176 (.bool true) (by kernel_rfl) (by kernel_rfl) (by kernel_rfl) hN (fun _ _ _ => by kernel_rfl) ?_
                refine Each.val 177 (vset a) (by kernel_rfl) (by kernel_rfl) (by kernel_rfl) hN (fun W hS _ => ex_load rfl (by kernel_rfl) (AA W hS)) ?_
                refine Each.val 178 (vset y) (by kernel_rfl) (by kernel_rfl) (by kernel_rfl) hN (fun W hS _ => ex_load rfl (by kernel_rfl) (AB W hS)) ?_
                refine Each.makes 179 (by kernel_rfl) (by kernel_rfl) (by kernel_rfl) (by kernel_rfl) (by kernel_rfl) (fun W hS _ => ⟨_, _, ex_slice2 (a := a) (b := y) rfl (by kernel_rfl) (by kernel_rfl), (Below.refl _ W).alloc (Nat.le_refl _) _, _, rfl, Blk.new W 29 _⟩) ?_
                refine Each.callLoose 180 179 (vset y) 20 (by kernel_rfl) (by kernel_rfl) (by kernel_rfl) (by kernel_rfl) (by kernel_rfl) (by kernel_rfl) (by kernel_rfl) (by kernel_rfl) (fun _ _ => by kernel_rfl) (fun W x hS hx => u2_callE (bk3 a y hp) hx) ?_
                refine Each.val 181 (vset y) (by kernel_rfl) (by kernel_rfl) (by kernel_rfl) hN (fun W hS _ => ex_load rfl (by kernel_rfl) (AB W hS)) ?_
                refine Each.val 182 (.bool false) (by kernel_rfl) (by kernel_rfl) (by kernel_rfl) hN (fun W hS _ => ex_neT (s := y) rfl (by kernel_rfl) (by kernel_rfl)) ?_
                refine Each.val 183 (.bool false) (by kernel_rfl) (by kernel_rfl) (by kernel_rfl) hN (fun _ _ _ => by kernel_rfl) ?_
                refine Each.val 184 (.bool false) (by kernel_rfl) (by kernel_rfl) (by kernel_rfl) hN (fun _ _ _ => by kernel_rfl) ?_
                exact trivial
              intro T w' hT hS hk
              have hTT := loose_eq hT hk
              clear hk hT
              obtain ⟨v1, v2, v3, hTT⟩ : ∃ v1 v2 v3 : Value, T = #[Value.agg #[Value.int IntKind.u64 (wdI a 0), Value.int IntKind.u64 (wdI a 1), Value.int IntKind.u64 (wdI a 2), Value.int IntKind.u64 (wdI a 3)], Value.slice (some { block := by', off := oy }) l.length cs, Value.string t, Value.pointer (some { block := nA, off := 0 }), undef, undef, u6, Value.pointer (some { block := nS, off := 0 }), u8, Value.pointer (some { block := nT, off := 0 }), Value.int IntKind.i64 0, Value.pointer (some { block := nU, off := 0 }), Value.int IntKind.i64 ev, u13, u14, Value.slice (some { block := g1, off := 0 }) L.length c1, Value.int IntKind.i64 256, Value.int IntKind.i64 ↑L.length, u18, Value.int IntKind.i64 ↑m, Value.pointer (some { block := nY, off := 0 }), u21, u22, u23, u24, u25, u26, u27, u28, u29, u30, u31, u32, u33, u34, u35, u36, u37, u38, u39, u40, u41, u42, u43, u44, u45, u46, u47, u48, u49, u50, u51, u52, u53, u54, u55, u56, u57, u58, u59, u60, u61, u62, u63, u64, u65, u66, u67, u68, u69, u70, u71, u72, u73, u74, u75, u76, u77, u78, u79, u80, u81, u82, u83, u84, Value.slice (some { block := by', off := oy }) l.length cs, Value.slice (some { block := g1, off := 0 }) L.length c1, Value.int IntKind.i64 ↑L.length, Value.slice (some { block := g1, off := 0 }) L.length c1, Value.int IntKind.i64 ↑L.length, Value.bool false, u91, u92, u93, u94, u95, u96, u97, u98, u99, u100, u101, u102, u103, u104, u105, u106, u107, u108, u109, u110, u111, u112, u113, u114, u115, u116, u117, u118, u119, u120, u121, u122, u123, u124, u125, u126, u127, u128, Value.int IntKind.i64 ↑m, Value.slice (some { block := by', off := oy }) l.length cs, Value.int IntKind.i64 ↑l.length, Value.bool true, u133, u134, Value.slice (some { block := by', off := oy }) l.length cs, Value.int IntKind.i64 ↑m, Value.pointer (some { block := by', off := oy + m * 4 }), Value.agg #[Value.int IntKind.u64 (wdI y 0), Value.int IntKind.u64 (wdI y 1), Value.int IntKind.u64 (wdI y 2), Value.int IntKind.u64 (wdI y 3)], vset a, vset y, v1, vset (a ||| y), vset (~~~(a ||| y)), vset a, vset (~~~a), vset y, vset (~~~y), vset (~~~(a ||| y)), .bool false, .bool false, vset a, vset y, vset (a &&& ~~~y), vset a, vset y, vset (~~~y), vset (a &&& ~~~y), .bool false, .bool false, .bool false, vset a, vset y, vset (a &&& ~~~y), vset a, vset y, vset (a &&& y), v2, vset a, vset a, .bool false, .bool false, .bool false, vset a, vset y, .bool true, .bool true, vset a, vset y, v3, vset y, vset y, .bool false, .bool false, .bool false, u185, u186, u187, u188, u189, u190, u191, u192, u193, u194, u195, u196, u197, u198, u199, u200, u201, u202, u203, u204, u205] := ⟨_, _, _, hTT⟩
              subst hTT
              have HBX := Lib.hid (HBy.out.trans (hS.mono HBy.out.size))
              clear hS hN AA AB HBy
              go_wp2
              go_roundw
              case rel => exact ⟨m + 1, by go_num, by omega, HBX⟩
              case measure => simp [intOf]; omega
            | false =>
              refine wp_region_vals (N := fun W W' => Below W.heap.size W W') (S := fun W => Below wy.heap.size wy W) [141, 167] (fun t v W => ∃ n, v = .slice (some ⟨n, 0, none⟩) 2 2 ∧ Blk W n 29 (if t = 167 then cells2 (a &&& ~~~y) (a &&& y) else cells2 a y))
                [vset a, vset y, undef, vset (a ||| y), vset (~~~(a ||| y)), vset a, vset (~~~a), vset y, vset (~~~y), vset (~~~(a ||| y)), .bool false, .bool false, vset a, vset y, vset (a &&& ~~~y), vset a, vset y, vset (~~~y), vset (a &&& ~~~y), .bool false, .bool false, .bool false, vset a, vset y, vset (a &&& ~~~y), vset a, vset y, vset (a &&& y), undef, vset a, vset a, .bool false, .bool false, .bool false, vset a, vset y, .bool false, .bool false, undef, undef, undef, undef, undef, undef, .bool false, .bool false]
                #[Value.agg #[Value.int IntKind.u64 (wdI a 0), Value.int IntKind.u64 (wdI a 1), Value.int IntKind.u64 (wdI a 2), Value.int IntKind.u64 (wdI a 3)], Value.slice (some { block := by', off := oy }) l.length cs, Value.string t, Value.pointer (some { block := nA, off := 0 }), undef, undef, u6, Value.pointer (some { block := nS, off := 0 }), u8, Value.pointer (some { block := nT, off := 0 }), Value.int IntKind.i64 0, Value.pointer (some { block := nU, off := 0 }), Value.int IntKind.i64 ev, u13, u14, Value.slice (some { block := g1, off := 0 }) L.length c1, Value.int IntKind.i64 256, Value.int IntKind.i64 ↑L.length, u18, Value.int IntKind.i64 ↑m, Value.pointer (some { block := nY, off := 0 }), u21, u22, u23, u24, u25, u26, u27, u28, u29, u30, u31, u32, u33, u34, u35, u36, u37, u38, u39, u40, u41, u42, u43, u44, u45, u46, u47, u48, u49, u50, u51, u52, u53, u54, u55, u56, u57, u58, u59, u60, u61, u62, u63, u64, u65, u66, u67, u68, u69, u70, u71, u72, u73, u74, u75, u76, u77, u78, u79, u80, u81, u82, u83, u84, Value.slice (some { block := by', off := oy }) l.length cs, Value.slice (some { block := g1, off := 0 }) L.length c1, Value.int IntKind.i64 ↑L.length, Value.slice (some { block := g1, off := 0 }) L.length c1, Value.int IntKind.i64 ↑L.length, Value.bool false, u91, u92, u93, u94, u95, u96, u97, u98, u99, u100, u101, u102, u103, u104, u105, u106, u107, u108, u109, u110, u111, u112, u113, u114, u115, u116, u117, u118, u119, u120, u121, u122, u123, u124, u125, u126, u127, u128, Value.int IntKind.i64 ↑m, Value.slice (some { block := by', off := oy }) l.length cs, Value.int IntKind.i64 ↑l.length, Value.bool true, u133, u134, Value.slice (some { block := by', off := oy }) l.length cs, Value.int IntKind.i64 ↑m, Value.pointer (some { block := by', off := oy + m * 4 }), Value.agg #[Value.int IntKind.u64 (wdI y 0), Value.int IntKind.u64 (wdI y 1), Value.int IntKind.u64 (wdI y 2), Value.int IntKind.u64 (wdI y 3)], vset a, vset y, undef, vset (a ||| y), vset (~~~(a ||| y)), vset a, vset (~~~a), vset y, vset (~~~y), vset (~~~(a ||| y)), .bool false, .bool false, vset a, vset y, vset (a &&& ~~~y), vset a, vset y, vset (~~~y), vset (a &&& ~~~y), .bool false, .bool false, .bool false, vset a, vset y, vset (a &&& ~~~y), vset a, vset y, vset (a &&& y), undef, vset a, vset a, .bool false, .bool false, .bool false, vset a, vset y, .bool false, .bool false, undef, undef, undef, undef, undef, undef, .bool false, .bool false, u185, u186, u187, u188, u189, u190, u191, u192, u193, u194, u195, u196, u197, u198, u199, u200, u201, u202, u203, u204, u205]
                rfl (by kernel_rfl) (by kernel_rfl) (by kernel_rfl) (by kernel_rfl) hN (Below.refl _ wy).drew (fun W W' h hB => h.trans (hB.mono h.size)) (fun _ _ v W W' h hB => h.imp fun n h => ⟨h.1, h.2.below hB h.2.lt⟩) ?_ ?_
              · refine Each.val 139 (vset a) (by kernel_rfl) (by kernel_rfl) (by kernel_rfl) hN (fun W hS _ => ex_load rfl (by kernel_rfl) (AA W hS)) ?_
                refine Each.val 140 (vset y) (by kernel_rfl) (by kernel_rfl) (by kernel_rfl) hN (fun W hS _ => ex_load rfl (by kernel_rfl) (AB W hS)) ?_
                refine Each.makes 141 (by kernel_rfl) (by kernel_rfl) (by kernel_rfl) (by kernel_rfl) (by kernel_rfl) (fun W hS _ => ⟨_, _, ex_slice2 (a := a) (b := y) rfl (by kernel_rfl) (by kernel_rfl), (Below.refl _ W).alloc (Nat.le_refl _) _, _, rfl, Blk.new W 29 _⟩) ?_
                refine Each.callLoose 142 141 (vset (a ||| y)) 20 (by kernel_rfl) (by kernel_rfl) (by kernel_rfl) (by kernel_rfl) (by kernel_rfl) (by kernel_rfl) (by kernel_rfl) (by kernel_rfl) (fun _ _ => by kernel_rfl) (fun W x hS hx => u2_call hx) ?_
                refine Each.call 143 (vset (~~~(a ||| y))) 29 #[vset (a ||| y)] (by kernel_rfl) (by kernel_rfl) (by kernel_rfl) (fun _ _ => by kernel_rfl) (fun W hS => not_any _ W) ?_
                refine Each.val 144 (vset a) (by kernel_rfl) (by kernel_rfl) (by kernel_rfl) hN (fun W hS _ => ex_load rfl (by kernel_rfl) (AA W hS)) ?_
                refine Each.call 145 (vset (~~~a)) 29 #[vset a] (by kernel_rfl) (by kernel_rfl) (by kernel_rfl) (fun _ _ => by kernel_rfl) (fun W hS => not_any _ W) ?_
                refine Each.val 146 (vset y) (by kernel_rfl) (by kernel_rfl) (by kernel_rfl) hN (fun W hS _ => ex_load rfl (by kernel_rfl) (AB W hS)) ?_
                refine Each.call 147 (vset (~~~y)) 29 #[vset y] (by kernel_rfl) (by kernel_rfl) (by kernel_rfl) (fun _ _ => by kernel_rfl) (fun W hS => not_any _ W) ?_
                refine Each.call 148 (vset (~~~(a ||| y))) 26 #[vset (~~~a), vset (~~~y)] (by kernel_rfl) (by kernel_rfl) (by kernel_rfl) (fun _ _ => by kernel_rfl) (fun W hS => mcE (bk1 a y) W) ?_
                refine Each.val 149 (.bool false) (by kernel_rfl) (by kernel_rfl) (by kernel_rfl) hN (fun W hS _ => ex_neT (s := ~~~(a ||| y)) rfl (by kernel_rfl) (by kernel_rfl)) ?_
                refine Each.val 150 (.bool false) (by kernel_rfl) (by kernel_rfl) (by kernel_rfl) hN (fun _ _ _ => by kernel_rfl) ?_
                refine Each.val 151 (vset a) (by kernel_rfl) (by kernel_rfl) (by kernel_rfl) hN (fun W hS _ => ex_load rfl (by kernel_rfl) (AA W hS)) ?_
                refine Each.val 152 (vset y) (by kernel_rfl) (by kernel_rfl) (by kernel_rfl) hN (fun W hS _ => ex_load rfl (by kernel_rfl) (AB W hS)) ?_
                refine Each.call 153 (vset (a &&& ~~~y)) 28 #[vset a, vset y] (by kernel_rfl) (by kernel_rfl) (by kernel_rfl) (fun _ _ => by kernel_rfl) (fun W hS => without_any _ _ W) ?_
                refine Each.val 154 (vset a) (by kernel_rfl) (by kernel_rfl) (by kernel_rfl) hN (fun W hS _ => ex_load rfl (by kernel_rfl) (AA W hS)) ?_
                refine Each.val 155 (vset y) (by kernel_rfl) (by kernel_rfl) (by kernel_rfl) hN (fun W hS _ => ex_load rfl (by kernel_rfl) (AB W hS)) ?_
                refine Each.call 156 (vset (~~~y)) 29 #[vset y] (by kernel_rfl) (by kernel_rfl) (by kernel_rfl) (fun _ _ => by kernel_rfl) (fun W hS => not_any _ W) ?_
                refine Each.call 157 (vset (a &&& ~~~y)) 26 #[vset a, vset (~~~y)] (by kernel_rfl) (by kernel_rfl) (by kernel_rfl) (fun _ _ => by kernel_rfl) (fun W hS => meet_any _ _ W) ?_
                refine Each.val 158 (.bool false) (by kernel_rfl) (by kernel_rfl) (by kernel_rfl) hN (fun W hS _ => ex_neT (s := a &&& ~~~y) rfl (by kernel_rfl) (by kernel_rfl)) ?_
                refine Each.val 159 (.bool false) (by kernel_rfl) (by kernel_rfl) (by kernel_rfl) hN (fun _ _ _ => by kernel_rfl) ?_
                refine Each.val 160 (.bool false) (by kernel_rfl) (by kernel_rfl) (by kernel_rfl) hN (fun _ _ _ => by kernel_rfl) ?_
                refine Each.val 161 (vset a) (by kernel_rfl) (by kernel_rfl) (by kernel_rfl) hN (fun W hS _ => ex_load rfl (by kernel_rfl) (AA W hS)) ?_
                refine Each.val 162 (vset y) (by kernel_rfl) (by kernel_rfl) (by kernel_rfl) hN (fun W hS _ => ex_load rfl (by kernel_rfl) (AB W hS)) ?_
                refine Each.call 163 (vset (a &&& ~~~y)) 28 #[vset a, vset y] (by kernel_rfl) (by kernel_rfl) (by kernel_rfl) (fun _ _ => by kernel_rfl) (fun W hS => without_any _ _ W) ?_
                refine Each.val 164 (vset a) (by kernel_rfl) (by kernel_rfl) (by kernel_rfl) hN (fun W hS _ => ex_load rfl (by kernel_rfl) (AA W hS)) ?_
                refine Each.val 165 (vset y) (by kernel_rfl) (by kernel_rfl) (by kernel_rfl) hN (fun W hS _ => ex_load rfl (by kernel_rfl) (AB W hS)) ?_
                refine Each.call 166 (vset (a &&& y)) 26 #[vset a, vset y] (by kernel_rfl) (by kernel_rfl) (by kernel_rfl) (fun _ _ => by kernel_rfl) (fun W hS => meet_any _ _ W) ?_
                refine Each.makes 167 (by kernel_rfl) (by kernel_rfl) (by kernel_rfl) (by kernel_rfl) (by kernel_rfl) (fun W hS _ => ⟨_, _, ex_slice2 (a := a &&& ~~~y) (b := a &&& y) rfl (by kernel_rfl) (by kernel_rfl), (Below.refl _ W).alloc (Nat.le_refl _) _, _, rfl, Blk.new W 29 _⟩) ?_
                refine Each.callLoose 168 167 (vset a) 20 (by kernel_rfl) (by kernel_rfl) (by kernel_rfl) (by kernel_rfl) (by kernel_rfl) (by kernel_rfl) (by kernel_rfl) (by kernel_rfl) (fun _ _ => by kernel_rfl) (fun W x hS hx => u2_callE (bk2 a y) hx) ?_
                refine Each.val 169 (vset a) (by kernel_rfl) (by kernel_rfl) (by kernel_rfl) hN (fun W hS _ => ex_load rfl (by kernel_rfl) (AA W hS)) ?_
                refine Each.val 170 (.bool false) (by kernel_rfl) (by kernel_rfl) (by kernel_rfl) hN (fun W hS _ => ex_neT (s := a) rfl (by kernel_rfl) (by kernel_rfl)) ?_
                refine Each.val 171 (.bool false) (by kernel_rfl) (by kernel_rfl) (by kernel_rfl) hN (fun _ _ _ => by kernel_rfl) ?_
                refine Each.val 172 (.bool false) (by kernel_rfl) (by kernel_rfl) (by kernel_rfl) hN (fun _ _ _ => by kernel_rfl) ?_
                refine Each.val 173 (vset a) (by kernel_rfl) (by kernel_rfl) (by kernel_rfl) hN (fun W hS _ => ex_load rfl (by kernel_rfl) (AA W hS)) ?_
                refine Each.val 174 (vset y) (by kernel_rfl) (by kernel_rfl) (by kernel_rfl) hN (fun W hS _ => ex_load rfl (by kernel_rfl) (AB W hS)) ?_
                refine Each.call 175 (.bool false) 30 #[vset a, vset y] (by kernel_rfl) (by kernel_rfl) (by kernel_rfl) (fun _ _ => by kernel_rfl) (fun W hS => icE hp W) ?_
                refine Each.val 176 (.bool false) (by kernel_rfl) (by kernel_rfl) (by kernel_rfl) hN (fun _ _ _ => by kernel_rfl) ?_
                refine Each.off 177 (by kernel_rfl) (by kernel_rfl) (by kernel_rfl) ?_
                refine Each.off 178 (by kernel_rfl) (by kernel_rfl) (by kernel_rfl) ?_
                refine Each.off 179 (by kernel_rfl) (by kernel_rfl) (by kernel_rfl) ?_
                refine Each.off 180 (by kernel_rfl) (by kernel_rfl) (by kernel_rfl) ?_
                refine Each.off 181 (by kernel_rfl) (by kernel_rfl) (by kernel_rfl) ?_
                refine Each.off 182 (by kernel_rfl) (by kernel_rfl) (by kernel_rfl) ?_
                refine Each.val 183 (.bool false) (by kernel_rfl) (by kernel_rfl) (by kernel_rfl) hN (fun _ _ _ => by kernel_rfl) ?_
                refine Each.val 184 (.bool false) (by kernel_rfl) (by kernel_rfl) (by kernel_rfl) hN (fun _ _ _ => by kernel_rfl) ?_
                exact trivial
              intro T w' hT hS hk
              have hTT := loose_eq hT hk
              clear hk hT
              obtain ⟨v1, v2, hTT⟩ : ∃ v1 v2 : Value, T = #[Value.agg #[Value.int IntKind.u64 (wdI a 0), Value.int IntKind.u64 (wdI a 1), Value.int IntKind.u64 (wdI a 2), Value.int IntKind.u64 (wdI a 3)], Value.slice (some { block := by', off := oy }) l.length cs, Value.string t, Value.pointer (some { block := nA, off := 0 }), undef, undef, u6, Value.pointer (some { block := nS, off := 0 }), u8, Value.pointer (some { block := nT, off := 0 }), Value.int IntKind.i64 0, Value.pointer (some { block := nU, off := 0 }), Value.int IntKind.i64 ev, u13, u14, Value.slice (some { block := g1, off := 0 }) L.length c1, Value.int IntKind.i64 256, Value.int IntKind.i64 ↑L.length, u18, Value.int IntKind.i64 ↑m, Value.pointer (some { block := nY, off := 0 }), u21, u22, u23, u24, u25, u26, u27, u28, u29, u30, u31, u32, u33, u34, u35, u36, u37, u38, u39, u40, u41, u42, u43, u44, u45, u46, u47, u48, u49, u50, u51, u52, u53, u54, u55, u56, u57, u58, u59, u60, u61, u62, u63, u64, u65, u66, u67, u68, u69, u70, u71, u72, u73, u74, u75, u76, u77, u78, u79, u80, u81, u82, u83, u84, Value.slice (some { block := by', off := oy }) l.length cs, Value.slice (some { block := g1, off := 0 }) L.length c1, Value.int IntKind.i64 ↑L.length, Value.slice (some { block := g1, off := 0 }) L.length c1, Value.int IntKind.i64 ↑L.length, Value.bool false, u91, u92, u93, u94, u95, u96, u97, u98, u99, u100, u101, u102, u103, u104, u105, u106, u107, u108, u109, u110, u111, u112, u113, u114, u115, u116, u117, u118, u119, u120, u121, u122, u123, u124, u125, u126, u127, u128, Value.int IntKind.i64 ↑m, Value.slice (some { block := by', off := oy }) l.length cs, Value.int IntKind.i64 ↑l.length, Value.bool true, u133, u134, Value.slice (some { block := by', off := oy }) l.length cs, Value.int IntKind.i64 ↑m, Value.pointer (some { block := by', off := oy + m * 4 }), Value.agg #[Value.int IntKind.u64 (wdI y 0), Value.int IntKind.u64 (wdI y 1), Value.int IntKind.u64 (wdI y 2), Value.int IntKind.u64 (wdI y 3)], vset a, vset y, v1, vset (a ||| y), vset (~~~(a ||| y)), vset a, vset (~~~a), vset y, vset (~~~y), vset (~~~(a ||| y)), .bool false, .bool false, vset a, vset y, vset (a &&& ~~~y), vset a, vset y, vset (~~~y), vset (a &&& ~~~y), .bool false, .bool false, .bool false, vset a, vset y, vset (a &&& ~~~y), vset a, vset y, vset (a &&& y), v2, vset a, vset a, .bool false, .bool false, .bool false, vset a, vset y, .bool false, .bool false, undef, undef, undef, undef, undef, undef, .bool false, .bool false, u185, u186, u187, u188, u189, u190, u191, u192, u193, u194, u195, u196, u197, u198, u199, u200, u201, u202, u203, u204, u205] := ⟨_, _, hTT⟩
              subst hTT
              have HBX := Lib.hid (HBy.out.trans (hS.mono HBy.out.size))
              clear hS hN AA AB HBy
              go_wp2
              go_roundw
              case rel => exact ⟨m + 1, by go_num, by omega, HBX⟩
              case measure => simp [intOf]; omega
          · obtain rfl : m = l.length := by omega
            clear HA2 HB2 hV
            go_wp2_with fail
            have hN : ∀ w : World, Below w.heap.size w w := fun w => Below.refl _ w
            have AA : ∀ W, Below wr.heap.size wr W → Blk W nA 29 (cset a) := fun W h => HA3.out.below h HA3.out.lt
            have AG : ∀ W, Below wr.heap.size wr W → Glob W := fun W h => HG.out.below (Nat.le_refl _) (HB3.out.trans (h.mono HB3.out.size))
            obtain ⟨n1, hn1⟩ : ∃ n, n = cnt a := ⟨_, rfl⟩
            obtain ⟨n2, hn2⟩ : ∃ n, n = cnt (~~~a) := ⟨_, rfl⟩
            have hn12 : n1 + n2 = 256 := by rw [hn1, hn2]; exact cnt_not a
            have HN1 := count_any a
            have HN2 := count_any (~~~a)
            rw [← hn1] at HN1
            rw [← hn2] at HN2
            clear hn1 hn2
            refine wp_region_vals0 (N := fun W W' => Below W.heap.size W W') (S := fun W => Below wr.heap.size wr W)
              [Value.int IntKind.i64 256, .bool true, .bool true, vset a, vset (~~~a), vset a, vset a, .bool true, .bool true, .bool true, vset a, .int .i64 (n1 : Nat), vset a, vset (~~~a), .int .i64 (n2 : Nat), .int .i64 256, .bool true, .bool true, .bool true, .bool true, .bool true, .bool true]
              #[Value.agg #[Value.int IntKind.u64 (wdI a 0), Value.int IntKind.u64 (wdI a 1), Value.int IntKind.u64 (wdI a 2), Value.int IntKind.u64 (wdI a 3)], Value.slice s l.length cs, Value.string t, Value.pointer (some { block := nA, off := 0 }), undef, undef, .bool true, Value.pointer (some { block := nS, off := 0 }), u8, Value.pointer (some { block := nT, off := 0 }), Value.int IntKind.i64 0, Value.pointer (some { block := nU, off := 0 }), Value.int IntKind.i64 ev, u13, u14, Value.slice (some { block := g1, off := 0 }) L.length c1, Value.int IntKind.i64 256, Value.int IntKind.i64 ↑L.length, u18, Value.int IntKind.i64 ↑l.length, u20, u21, u22, u23, u24, u25, u26, u27, u28, u29, u30, u31, u32, u33, u34, u35, u36, u37, u38, u39, u40, u41, u42, u43, u44, u45, u46, u47, u48, u49, u50, u51, u52, u53, u54, u55, u56, u57, u58, u59, u60, u61, u62, u63, u64, u65, u66, u67, u68, u69, u70, u71, u72, u73, u74, u75, u76, u77, u78, u79, u80, u81, u82, u83, u84, Value.slice s l.length cs, Value.slice (some { block := g1, off := 0 }) L.length c1, Value.int IntKind.i64 ↑L.length, Value.slice (some { block := g1, off := 0 }) L.length c1, Value.int IntKind.i64 ↑L.length, Value.bool false, u91, u92, u93, u94, u95, u96, u97, u98, u99, u100, u101, u102, u103, u104, u105, u106, u107, u108, u109, u110, u111, u112, u113, u114, u115, u116, u117, u118, u119, u120, u121, u122, u123, u124, u125, u126, u127, u128, Value.int IntKind.i64 ↑l.length, Value.slice s l.length cs, Value.int IntKind.i64 ↑l.length, Value.bool false, u133, u134, u135, u136, u137, u138, u139, u140, u141, u142, u143, u144, u145, u146, u147, u148, u149, u150, u151, u152, u153, u154, u155, u156, u157, u158, u159, u160, u161, u162, u163, u164, u165, u166, u167, u168, u169, u170, u171, u172, u173, u174, u175, u176, u177, u178, u179, u180, u181, u182, u183, u184, Value.int IntKind.i64 256, .bool true, .bool true, vset a, vset (~~~a), vset a, vset a, .bool true, .bool true, .bool true, vset a, .int .i64 (n1 : Nat), vset a, vset (~~~a), .int .i64 (n2 : Nat), .int .i64 256, .bool true, .bool true, .bool true, .bool true, .bool true]
              rfl (by kernel_rfl) (by kernel_rfl) (by kernel_rfl) hN (Below.refl _ wr).drew (fun W W' h hB => h.trans (hB.mono h.size)) ?_ ?_
            · refine Each.val 185 (Value.int IntKind.i64 256) (by kernel_rfl) (by kernel_rfl) (by kernel_rfl) hN (fun _ _ _ => by kernel_rfl) ?_
              refine Each.val 186 (.bool true) (by kernel_rfl) (by kernel_rfl) (by kernel_rfl) hN (fun _ _ _ => by kernel_rfl) ?_
              refine Each.val 187 (.bool true) (by kernel_rfl) (by kernel_rfl) (by kernel_rfl) hN (fun _ _ _ => by kernel_rfl) ?_
              refine Each.val 188 (vset a) (by kernel_rfl) (by kernel_rfl) (by kernel_rfl) hN (fun W hS _ => ex_load rfl (by kernel_rfl) (AA W hS)) ?_
              refine Each.call 189 (vset (~~~a)) 29 #[vset a] (by kernel_rfl) (by kernel_rfl) (by kernel_rfl) (fun _ _ => by kernel_rfl) (fun W hS => not_any _ W) ?_
              refine Each.call 190 (vset a) 29 #[vset (~~~a)] (by kernel_rfl) (by kernel_rfl) (by kernel_rfl) (fun _ _ => by kernel_rfl) (fun W hS => notE W) ?_
              refine Each.val 191 (vset a) (by kernel_rfl) (by kernel_rfl) (by kernel_rfl) hN (fun W hS _ => ex_load rfl (by kernel_rfl) (AA W hS)) ?_
              refine Each.val 192 (.bool true) (by kernel_rfl) (by kernel_rfl) (by kernel_rfl) hN (fun W hS _ => ex_eqT (s := a) (t := a) rfl (by kernel_rfl) (by kernel_rfl) (by simp)) ?_
              refine Each.val 193 (.bool true) (by kernel_rfl) (by kernel_rfl) (by kernel_rfl) hN (fun _ _ _ => by kernel_rfl) ?_
              refine Each.val 194 (.bool true) (by kernel_rfl) (by kernel_rfl) (by kernel_rfl) hN (fun _ _ _ => by kernel_rfl) ?_
              refine Each.val 195 (vset a) (by kernel_rfl) (by kernel_rfl) (by kernel_rfl) hN (fun W hS _ => ex_load rfl (by kernel_rfl) (AA W hS)) ?_
              refine Each.call 196 (.int .i64 (n1 : Nat)) 31 #[vset a] (by kernel_rfl) (by kernel_rfl) (by kernel_rfl) (fun _ _ => by kernel_rfl) (fun W hS => HN1 W) ?_
              refine Each.val 197 (vset a) (by kernel_rfl) (by kernel_rfl) (by kernel_rfl) hN (fun W hS _ => ex_load rfl (by kernel_rfl) (AA W hS)) ?_
              refine Each.call 198 (vset (~~~a)) 29 #[vset a] (by kernel_rfl) (by kernel_rfl) (by kernel_rfl) (fun _ _ => by kernel_rfl) (fun W hS => not_any _ W) ?_
              refine Each.call 199 (.int .i64 (n2 : Nat)) 31 #[vset (~~~a)] (by kernel_rfl) (by kernel_rfl) (by kernel_rfl) (fun _ _ => by kernel_rfl) (fun W hS => HN2 W) ?_
              refine Each.val 200 (.int .i64 256) (by kernel_rfl) (by kernel_rfl) (by kernel_rfl) hN (fun W hS _ => ex_add256 (m := n1) (n := n2) rfl (by kernel_rfl) (by kernel_rfl) hn12) ?_
              refine Each.val 201 (.bool true) (by kernel_rfl) (by kernel_rfl) (by kernel_rfl) hN (fun _ _ _ => by kernel_rfl) ?_
              refine Each.val 202 (.bool true) (by kernel_rfl) (by kernel_rfl) (by kernel_rfl) hN (fun _ _ _ => by kernel_rfl) ?_
              refine Each.val 203 (.bool true) (by kernel_rfl) (by kernel_rfl) (by kernel_rfl) hN (fun _ _ _ => by kernel_rfl) ?_
              refine Each.call 204 (.bool true) 10 #[] (by kernel_rfl) (by kernel_rfl) (by kernel_rfl) (fun _ _ => by kernel_rfl) (fun W hS => works_any W (AG W hS)) ?_
              refine Each.val 205 (.bool true) (by kernel_rfl) (by kernel_rfl) (by kernel_rfl) hN (fun _ _ _ => by kernel_rfl) ?_
              refine Each.val 6 (.bool true) (by kernel_rfl) (by kernel_rfl) (by kernel_rfl) hN (fun _ _ _ => by kernel_rfl) ?_
              exact trivial
            · intro w' hS
              have HBX := Lib.hid (HB3.out.trans (hS.mono HB3.out.size))
              clear hS hN AA AG
              go_wp2
              go_ret
              exact ⟨rfl, HBX.out⟩

theorem lawBack (HS : SortsS) (a : BS) (s : Option Addr) (cs : Nat) (l : List BS) (t : ByteArray) (w : World) (hG : Glob w) (hd : RowB w s l) :
    Calls Tryd.prog 7 #[vset a, .slice s l.length cs, .string t] w fun e w' => e = .returned (.bool true) ∧ Below w.heap.size w w' := by
  by_cases h : l.length ≤ 10 ∧ t.size ≤ 2000
  · exact lawBack_any HS a s cs l t w hG hd h.1 h.2
  · exact lawBack_long a s cs l t w hG (by omega)
end Go.Proofs.YtegmoeeeomjkgaaDoor
end
