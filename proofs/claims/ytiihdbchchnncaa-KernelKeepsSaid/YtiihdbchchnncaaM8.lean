import Derived.Test.YtiihdbchchnncaaM4
import Derived.Test.YtiihdbchchnncaaM6
import Derived.Test.YtiihdbchchnncaaM7
section
namespace Go.Proofs.Ytiihdbchchnncaa
open Go Go.RowKit Go.Vals

theorem AProd.below {w W : World} {p : ProdM} (h : AProd w p) (hB : Below w.heap.size w W) : AProd W p := ⟨h.inn.below hB, h.left, h.role, h.frm, h.cons, h.syms, h.len, h.cap, h.nil⟩
theorem AGram.below {w W : World} {g : GramM} (h : AGram w g) (hB : Below w.heap.size w W) : AGram W g :=
  ⟨h.inn.below hB, h.start, h.names, fun p hp => (h.prods p hp).below hB, h.forb, h.fol, h.sl, h.sc, h.sn, h.pl, h.pc, h.pn, h.fl, h.fc, h.fn, h.wl, h.wc, h.wn⟩
theorem AGram.nilOK {w : World} {g : GramM} (h : AGram w g) : NilOK g := ⟨h.sn, h.pn, h.fn, h.wn, fun x hx => (h.prods x hx).nil⟩

theorem eqL_comm {α : Type} {q : α → α → Bool} (hq : ∀ x y, q x y = q y x) : ∀ (l r : List α), eqL q l r = eqL q r l := by
  intro l
  induction l with
  | nil => intro r; cases r <;> rfl
  | cons x l ih =>
    intro r
    cases r with
    | nil => rfl
    | cons y r => rw [eqL, eqL, hq, ih]
theorem beq_sym {α : Type} [BEq α] [LawfulBEq α] (x y : α) : (x == y) = (y == x) := by
  rw [Bool.eq_iff_iff, beq_iff_eq, beq_iff_eq]; exact eq_comm
theorem symEq_comm (x y : SymM) : symEq x y = symEq y x := by unfold symEq; rw [beq_sym x.kind, beq_sym x.set, beq_sym x.sort]
theorem prodEq_comm (x y : ProdM) : prodEq x y = prodEq y x := by unfold prodEq; rw [beq_sym x.left, eqL_comm symEq_comm, beq_sym x.cons.toList, beq_sym x.role, beq_sym x.prefer, beq_sym x.avoid, beq_sym x.frm]
theorem forEq_comm (x y : ForM) : forEq x y = forEq y x := by unfold forEq; rw [beq_sym x.parent, beq_sym x.at_, beq_sym x.child]
theorem folEq_comm (x y : FolM) : folEq x y = folEq y x := by unfold folEq; rw [beq_sym x.sort, beq_sym x.not]
theorem sameG_comm (a b : GramM) : sameG a b = sameG b a := by
  unfold sameG
  rw [eqL_comm strEq_comm, eqL_comm prodEq_comm, beq_sym a.start, eqL_comm forEq_comm, eqL_comm folEq_comm]
theorem eqL_refl {α : Type} {q : α → α → Bool} (hq : ∀ x, q x x = true) (l : List α) : eqL q l l = true := eqL_yes rfl fun i x y hx hy => by rw [hx] at hy; cases hy; exact hq x
theorem symEq_refl (x : SymM) : symEq x x = true := by unfold symEq; simp
theorem prodEq_bare {x y : ProdM} (h : bareP x = bareP y) : prodEq x y = true := by
  have e : prodEq x y = prodEq (bareP x) (bareP y) := rfl
  rw [e, h]
  unfold prodEq
  rw [eqL_refl symEq_refl]
  simp
theorem sameG_copy {a m : GramM} (h : CopyOf a m) : sameG a m = true := by
  unfold sameG
  rw [h.sorts, h.start, h.forbid, h.follow, eqL_refl (fun x => by unfold strEq; simp) a.sorts, eqL_refl (fun x => by unfold forEq; simp) a.forbid, eqL_refl (fun x => by unfold folEq; simp) a.follow]
  have hl : a.prods.length = m.prods.length := by
    have := congrArg List.length h.prods
    rw [List.length_map, List.length_map] at this; exact this.symm
  rw [eqL_yes hl fun i x y hx hy => ?_]
  · simp
  · refine prodEq_bare ?_
    have h1 : (m.prods.map bareP)[i]? = (a.prods.map bareP)[i]? := by rw [h.prods]
    rw [List.getElem?_map, List.getElem?_map, hx, hy] at h1
    simpa using h1.symm
/-- A copy is bound as the grammar is. -/
theorem CopyOf.fit {g m : GramM} (h : CopyOf g m) (f : FitG g) : FitG m := by
  obtain ⟨⟨f1, f2, f3, f4, f5, f6, f7⟩, g1, g2⟩ := f
  have hl : g.prods.length = m.prods.length := by
    have := congrArg List.length h.prods
    rw [List.length_map, List.length_map] at this; exact this.symm
  refine ⟨⟨by rw [h.sorts]; exact f1, by omega, fun x hx => ?_, by rw [h.forbid]; exact f4, by rw [h.follow]; exact f5, by rw [h.forbid]; exact f6, by rw [h.sorts]; exact f7⟩, by rw [h.forbid]; exact g1, by rw [h.follow]; exact g2⟩
  obtain ⟨i, hi⟩ := List.mem_iff_getElem?.1 hx
  have h1 : (m.prods.map bareP)[i]? = (g.prods.map bareP)[i]? := by rw [h.prods]
  rw [List.getElem?_map, List.getElem?_map, hi] at h1
  cases hy : g.prods[i]? with
  | none => rw [hy] at h1; simp at h1
  | some y =>
    rw [hy] at h1
    have h2 : bareP x = bareP y := by simpa using h1
    have h3 := congrArg ProdM.right h2
    have h4 : x.right = y.right := h3
    rw [h4]
    exact f3 y (List.mem_of_getElem? hy)

theorem ex_eqlB {w : World} {o : Oper} {ρ : Operand → Value} {x y : Operand} {s : Bool} (ho : o.op = .binOp .eql 4 x y 4) (hx : ρ x = .bool s) (hy : ρ y = .bool s) : (execOp ρ o).run Try.prog w = .ok (.value (.bool true)) w := by
  unfold execOp; rw [ho]; simp only [hx, hy]
  have h : (s == s) = true := by simp
  go_simp

set_option maxRecDepth 100000 in
set_option maxHeartbeats 1000000 in
theorem lawSame_vast (a b : GramM) (w : World) (ha : AGram w a) (hb : AGram w b) (hv : vastB a = true ∨ vastB b = true) : Calls Try.prog 4 #[gramV a, gramV b] w fun e w' => e = .returned (.bool true) ∧ Below w.heap.size w w' := by
  have hA : Below w.heap.size w ((w.alloc (.cells (gramC a) 27)).alloc (.cells (gramC b) 27)) := ((Below.refl _ w).alloc (Nat.le_refl _) _).alloc (by simp) _
  have HB0 := Lib.hid hA
  have H1 := Lib.hid (vast_any a _ (ha.below hA))
  have H2 := Lib.hid (fun W (hW : Below w.heap.size w W) => vast_any b W (hb.below hW))
  clear ha hb hA
  obtain ⟨va, hva⟩ : ∃ v, v = vastB a := ⟨_, rfl⟩
  obtain ⟨vb, hvb⟩ : ∃ v, v = vastB b := ⟨_, rfl⟩
  rw [← hva] at hv H1
  rw [← hvb] at hv H2
  clear hva hvb
  unfold gramV gramC at *
  cases va with
  | true =>
    clear hv H2
    go_enter Try.func4, Try.ntmps4
    go_wp2_with fail
    with_reducible refine H1.out.mono ?_
    rintro e w1 ⟨rfl, hB1⟩
    have HB1 := Lib.hid (HB0.out.trans (hB1.mono HB0.out.size))
    clear hB1
    go_wp2_with fail
    with_reducible refine (known_any w1).mono ?_
    rintro e w2 ⟨rfl, hB2⟩
    go_wp2
    go_ret
    exact ⟨rfl, HB1.out.trans (hB2.mono HB1.out.size)⟩
  | false =>
    obtain rfl : vb = true := by simpa using hv
    clear hv
    go_enter Try.func4, Try.ntmps4
    go_wp2_with fail
    with_reducible refine H1.out.mono ?_
    rintro e w1 ⟨rfl, hB1⟩
    have HB1 := Lib.hid (HB0.out.trans (hB1.mono HB0.out.size))
    obtain ⟨_, g1⟩ := keep2 w _ _ hB1
    obtain ⟨d0, d1, d2, d3, d4⟩ := cells5' g1
    have l1 := g1.lt
    clear hB1 g1
    go_wp2_with fail
    with_reducible refine (H2.out w1 HB1.out).mono ?_
    rintro e w2 ⟨rfl, hB2⟩
    have HB2 := Lib.hid (HB1.out.trans (hB2.mono HB1.out.size))
    clear hB2 d0 d1 d2 d3 d4 l1
    go_wp2_with fail
    with_reducible refine (known_any w2).mono ?_
    rintro e w3 ⟨rfl, hB3⟩
    go_wp2
    go_ret
    exact ⟨rfl, HB2.out.trans (hB3.mono HB2.out.size)⟩

theorem two_gram (w : World) (a b : GramM) (w3 : World) (hB : Below ((w.alloc (.cells (gramC a) 27)).alloc (.cells (gramC b) 27)).heap.size ((w.alloc (.cells (gramC a) 27)).alloc (.cells (gramC b) 27)) w3) :
    Blk w3 w.heap.size 27 (gramC a) ∧ Blk w3 (w.heap.size + 1) 27 (gramC b) := keep2 w _ _ hB

set_option maxRecDepth 100000 in
set_option maxHeartbeats 1000000 in
theorem lawSame_any (a b : GramM) (w : World) (ha : AGram w a) (hb : AGram w b) (hva : vastB a = false) (hvb : vastB b = false) : Calls Try.prog 4 #[gramV a, gramV b] w fun e w' => e = .returned (.bool true) ∧ Below w.heap.size w w' := by
  have hA : Below w.heap.size w ((w.alloc (.cells (gramC a) 27)).alloc (.cells (gramC b) 27)) := ((Below.refl _ w).alloc (Nat.le_refl _) _).alloc (by simp) _
  have HB0 := Lib.hid hA
  have V1 := Lib.hid (vast_any a _ (ha.below hA))
  have V2 := Lib.hid (fun W (hW : Below w.heap.size w W) => vast_any b W (hb.below hW))
  rw [hva] at V1
  rw [hvb] at V2
  have fa := ha.fit hva
  have fb := hb.fit hvb
  obtain ⟨s, hs⟩ : ∃ s, s = sameG a b := ⟨_, rfl⟩
  have G1 : Hid (∀ W, Below w.heap.size w W → Calls Try.prog 19 #[gramV a, gramV b] W fun e w' => e = .returned (.bool s) ∧ Below W.heap.size W w') := Lib.hid fun W hW => by rw [hs]; exact same_any a b W (ha.inn.below hW) (hb.inn.below hW) fa.fit fb.fit
  have G2 : Hid (∀ W, Below w.heap.size w W → Calls Try.prog 18 #[gramV a, gramV b] W fun e w' => e = .returned (.bool s) ∧ Below W.heap.size W w') := Lib.hid fun W hW => by rw [hs]; exact rsame_any a b W (ha.inn.below hW) (hb.inn.below hW) fa.fit fb.fit
  have G3 : Hid (∀ W, Below w.heap.size w W → Calls Try.prog 19 #[gramV b, gramV a] W fun e w' => e = .returned (.bool s) ∧ Below W.heap.size W w') := Lib.hid fun W hW => by rw [hs, sameG_comm]; exact same_any b a W (hb.inn.below hW) (ha.inn.below hW) fb.fit fa.fit
  have G4 : Hid (∀ W, Below w.heap.size w W → Calls Try.prog 11 #[gramV a] W fun e w' => ∃ v, e = .returned v ∧ Below W.heap.size W w' ∧ ∃ m, v = gramV m ∧ CopyOf a m ∧ GIn w' m) := Lib.hid fun W hW => (copied_any a W (ha.inn.below hW) ha.nilOK fa.fit).mono fun e w' ⟨m, h1, h2, h3, h4, h5⟩ => ⟨gramV m, h1, h5, m, rfl, h2, h3⟩
  have G5 : Hid (∀ W x, Below w.heap.size w W → (∃ m, x = gramV m ∧ CopyOf a m ∧ GIn W m) → Calls Try.prog 19 #[gramV a, x] W fun e w' => e = .returned (.bool true) ∧ Below W.heap.size W w') := Lib.hid fun W x hW hx => by
    obtain ⟨m, rfl, h2, h3⟩ := hx
    have h := same_any a m W (ha.inn.below hW) h3 fa.fit (h2.fit fa).fit
    rw [sameG_copy h2] at h
    exact h
  have K0 := Lib.hid (two_gram w a b)
  clear ha hb hA hva hvb fa fb hs
  unfold gramV gramC at V1 V2 HB0
  have hN : ∀ W : World, Below W.heap.size W W := fun W => Below.refl _ W
  unfold gramV gramC
  go_enter Try.func4, Try.ntmps4
  go_wp2_with fail
  with_reducible refine V1.out.mono ?_
  rintro e w1 ⟨rfl, hB1⟩
  have HB1 := Lib.hid (HB0.out.trans (hB1.mono HB0.out.size))
  obtain ⟨k0, k1⟩ := K0.out w1 hB1
  have g1 := k1
  obtain ⟨d0, d1, d2, d3, d4⟩ := cells5' g1
  have l1 := g1.lt
  have K01 := Lib.hid k0
  have K11 := Lib.hid k1
  clear hB1 g1 k0 k1 K0 V1 HB0
  go_wp2_with fail
  with_reducible refine (V2.out w1 HB1.out).mono ?_
  rintro e w2 ⟨rfl, hB2⟩
  have HB2 := Lib.hid (HB1.out.trans (hB2.mono HB1.out.size))
  have HK : Hid (∀ W, Below w2.heap.size w2 W → CellsAt W w.heap.size 0 (gramC a) ∧ CellsAt W (w.heap.size + 1) 0 (gramC b)) := Lib.hid (fun W hW => by
    have b0 := (K01.out.below hB2 K01.out.lt).below hW (K01.out.below hB2 K01.out.lt).lt
    have b1 := (K11.out.below hB2 K11.out.lt).below hW (K11.out.below hB2 K11.out.lt).lt
    exact ⟨fun j v hv => by rw [Nat.zero_add, b0.cell j]; exact hv, fun j v hv => by rw [Nat.zero_add, b1.cell j]; exact hv⟩)
  have H1 := Lib.hid (fun W (hW : Below w2.heap.size w2 W) => G1.out W (HB2.out.trans (hW.mono HB2.out.size)))
  have H2 := Lib.hid (fun W (hW : Below w2.heap.size w2 W) => G2.out W (HB2.out.trans (hW.mono HB2.out.size)))
  have H3 := Lib.hid (fun W (hW : Below w2.heap.size w2 W) => G3.out W (HB2.out.trans (hW.mono HB2.out.size)))
  have H4 := Lib.hid (fun W (hW : Below w2.heap.size w2 W) => G4.out W (HB2.out.trans (hW.mono HB2.out.size)))
  have H5 := Lib.hid (fun W x (hW : Below w2.heap.size w2 W) hx => G5.out W x (HB2.out.trans (hW.mono HB2.out.size)) hx)
  clear hB2 d0 d1 d2 d3 d4 l1 K01 K11 V2 HB1 G1 G2 G3 G4 G5
  go_wp2_with fail
  refine wp_region_vals (N := fun W W' => Below W.heap.size W W') (S := fun W => Below w2.heap.size w2 W) [31] (fun _ v W => ∃ m, v = gramV m ∧ CopyOf a m ∧ GIn W m)
    [gramV a, gramV b, .bool s, gramV a, gramV b, .bool s, .bool true, .bool true, gramV b, gramV a, .bool s, gramV a, gramV b, .bool s, .bool true, .bool true, .bool true, gramV a, gramV a, undef, .bool true, .bool true, .bool true, .bool true, .bool true, .bool true]
    #[gramV a, gramV b, .pointer (some ⟨w.heap.size, 0, none⟩), .pointer (some ⟨w.heap.size + 1, 0, none⟩), .bool true, gramV a, .bool false, .bool false, gramV b, .bool false, .bool false, undef, gramV a, gramV b, .bool s, gramV a, gramV b, .bool s, .bool true, .bool true, gramV b, gramV a, .bool s, gramV a, gramV b, .bool s, .bool true, .bool true, .bool true, gramV a, gramV a, undef, .bool true, .bool true, .bool true, .bool true, .bool true]
    rfl (by kernel_rfl) (by kernel_rfl) (by kernel_rfl) (by kernel_rfl) hN (Below.refl _ w2).drew (fun W W' h hB => h.trans (hB.mono h.size)) (fun _ _ v W W' h hB => h.imp fun m h => ⟨h.1, h.2.1, h.2.2.below hB⟩) ?_ ?_
  · refine Each.val 12 (gramV a) (by kernel_rfl) (by kernel_rfl) (by kernel_rfl) hN (fun W hS _ => ld27 rfl (by kernel_rfl) (HK.out W hS).1) ?_
    refine Each.val 13 (gramV b) (by kernel_rfl) (by kernel_rfl) (by kernel_rfl) hN (fun W hS _ => ld27 rfl (by kernel_rfl) (HK.out W hS).2) ?_
    refine Each.call 14 (.bool s) 19 #[gramV a, gramV b] (by kernel_rfl) (by kernel_rfl) (by kernel_rfl) (fun _ _ => by kernel_rfl) (fun W hS => H1.out W hS) ?_
    refine Each.val 15 (gramV a) (by kernel_rfl) (by kernel_rfl) (by kernel_rfl) hN (fun W hS _ => ld27 rfl (by kernel_rfl) (HK.out W hS).1) ?_
    refine Each.val 16 (gramV b) (by kernel_rfl) (by kernel_rfl) (by kernel_rfl) hN (fun W hS _ => ld27 rfl (by kernel_rfl) (HK.out W hS).2) ?_
    refine Each.call 17 (.bool s) 18 #[gramV a, gramV b] (by kernel_rfl) (by kernel_rfl) (by kernel_rfl) (fun _ _ => by kernel_rfl) (fun W hS => H2.out W hS) ?_
    refine Each.val 18 (.bool true) (by kernel_rfl) (by kernel_rfl) (by kernel_rfl) hN (fun W hS _ => ex_eqlB (s := s) rfl (by kernel_rfl) (by kernel_rfl)) ?_
    refine Each.val 19 (.bool true) (by kernel_rfl) (by kernel_rfl) (by kernel_rfl) hN (fun _ _ _ => by kernel_rfl) ?_
    refine Each.val 20 (gramV b) (by kernel_rfl) (by kernel_rfl) (by kernel_rfl) hN (fun W hS _ => ld27 rfl (by kernel_rfl) (HK.out W hS).2) ?_
    refine Each.val 21 (gramV a) (by kernel_rfl) (by kernel_rfl) (by kernel_rfl) hN (fun W hS _ => ld27 rfl (by kernel_rfl) (HK.out W hS).1) ?_
    refine Each.call 22 (.bool s) 19 #[gramV b, gramV a] (by kernel_rfl) (by kernel_rfl) (by kernel_rfl) (fun _ _ => by kernel_rfl) (fun W hS => H3.out W hS) ?_
    refine Each.val 23 (gramV a) (by kernel_rfl) (by kernel_rfl) (by kernel_rfl) hN (fun W hS _ => ld27 rfl (by kernel_rfl) (HK.out W hS).1) ?_
    refine Each.val 24 (gramV b) (by kernel_rfl) (by kernel_rfl) (by kernel_rfl) hN (fun W hS _ => ld27 rfl (by kernel_rfl) (HK.out W hS).2) ?_
    refine Each.call 25 (.bool s) 19 #[gramV a, gramV b] (by kernel_rfl) (by kernel_rfl) (by kernel_rfl) (fun _ _ => by kernel_rfl) (fun W hS => H1.out W hS) ?_
    refine Each.val 26 (.bool true) (by kernel_rfl) (by kernel_rfl) (by kernel_rfl) hN (fun W hS _ => ex_eqlB (s := s) rfl (by kernel_rfl) (by kernel_rfl)) ?_
    refine Each.val 27 (.bool true) (by kernel_rfl) (by kernel_rfl) (by kernel_rfl) hN (fun _ _ _ => by kernel_rfl) ?_
    refine Each.val 28 (.bool true) (by kernel_rfl) (by kernel_rfl) (by kernel_rfl) hN (fun _ _ _ => by kernel_rfl) ?_
    refine Each.val 29 (gramV a) (by kernel_rfl) (by kernel_rfl) (by kernel_rfl) hN (fun W hS _ => ld27 rfl (by kernel_rfl) (HK.out W hS).1) ?_
    refine Each.val 30 (gramV a) (by kernel_rfl) (by kernel_rfl) (by kernel_rfl) hN (fun W hS _ => ld27 rfl (by kernel_rfl) (HK.out W hS).1) ?_
    refine Each.callMakes 31 11 #[gramV a] (by kernel_rfl) (by kernel_rfl) (by kernel_rfl) (by kernel_rfl) (by kernel_rfl) (fun _ _ => by kernel_rfl) (fun W hS => H4.out W hS) ?_
    refine Each.callLoose2 32 29 31 (gramV a) (.bool true) 19 (by kernel_rfl) (by kernel_rfl) (by kernel_rfl) (by kernel_rfl) (by kernel_rfl) (by kernel_rfl) (by kernel_rfl) (by kernel_rfl) (by kernel_rfl) (fun _ _ => by kernel_rfl) (fun W x hS hx => H5.out W x hS hx) ?_
    refine Each.val 33 (.bool true) (by kernel_rfl) (by kernel_rfl) (by kernel_rfl) hN (fun _ _ _ => by kernel_rfl) ?_
    refine Each.val 34 (.bool true) (by kernel_rfl) (by kernel_rfl) (by kernel_rfl) hN (fun _ _ _ => by kernel_rfl) ?_
    refine Each.call 35 (.bool true) 10 #[] (by kernel_rfl) (by kernel_rfl) (by kernel_rfl) (fun _ _ => by kernel_rfl) (fun W hS => known_any W) ?_
    refine Each.val 36 (.bool true) (by kernel_rfl) (by kernel_rfl) (by kernel_rfl) hN (fun _ _ _ => by kernel_rfl) ?_
    refine Each.val 4 (.bool true) (by kernel_rfl) (by kernel_rfl) (by kernel_rfl) hN (fun _ _ _ => by kernel_rfl) ?_
    exact trivial
  · intro T w' hT hS hk
    have hT1 := loose_eq hT hk
    clear hk hT
    obtain ⟨v1, hTT⟩ : ∃ v1 : Value, T = #[gramV a, gramV b, .pointer (some ⟨w.heap.size, 0, none⟩), .pointer (some ⟨w.heap.size + 1, 0, none⟩), .bool true, gramV a, .bool false, .bool false, gramV b, .bool false, .bool false, undef, gramV a, gramV b, .bool s, gramV a, gramV b, .bool s, .bool true, .bool true, gramV b, gramV a, .bool s, gramV a, gramV b, .bool s, .bool true, .bool true, .bool true, gramV a, gramV a, v1, .bool true, .bool true, .bool true, .bool true, .bool true] := ⟨_, hT1⟩
    clear hT1
    subst hTT
    have HB3 := Lib.hid (HB2.out.trans (hS.mono HB2.out.size))
    clear hS hN HB2 H1 H2 H3 H4 H5 HK
    unfold gramV gramC
    go_wp2
    go_ret
    exact ⟨rfl, HB3.out⟩
end Go.Proofs.Ytiihdbchchnncaa
end
