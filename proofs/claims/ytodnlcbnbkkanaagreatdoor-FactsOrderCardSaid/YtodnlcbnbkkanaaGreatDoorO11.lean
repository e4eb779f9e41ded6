import Derived.Test.YtodnlcbnbkkanaaGreatDoorO10
section
namespace Go.Proofs.YtodnlcbnbkkanaaGreatDoor
open Go Go.RowKit

attribute [local go_sem] Oper.semAt_some

theorem BI.low {w : World} {Bb n : Nat} {S : List BackM → Prop} {F : List BS} {M : List Bool} {b0 : BackM} {l : List SymM} {B0 B : List BackM} {nb : Bool} {m : Nat} {W V : World} {N : Nat} (h : BI w Bb n S F M b0 l B0 B nb m W) (hB : Below N W V) (hN : w.heap.size ≤ N) (hb : Bb < w.heap.size) : BI w Bb n S F M b0 l B0 B nb m V :=
  ⟨⟨hB.os.trans h.g.os, hB.tape.trans h.g.tape, hB.output.trans h.g.output, Nat.le_trans h.g.size hB.size, fun j hj hne => (hB.block j (by omega)).trans (h.g.block j hj hne)⟩, h.blk.below hB (by omega), h.len, h.snd, h.st⟩
structure BR (w : World) (Bb n : Nat) (S : List BackM → Prop) (F : List BS) (M : List Bool) (b0 : BackM) (x : ProdM) (B0 : List BackM) (l : List (Nat × SymM)) (W : World) : Prop where
  ex : ∃ (m : Nat) (B : List BackM) (nb : Bool), bkS x.right x.right.length = l ++ bkS x.right m ∧ m ≤ x.right.length ∧ BI w Bb n S F M b0 x.right B0 B nb m W ∧ Blk W (w.heap.size + 1) 123 (backC (hereL F M b0 (x.right.drop m))) ∧ Blk W (w.heap.size + 2) 4 #[.bool nb]
  box : Blk W (w.heap.size + 3) 62 #[.slice x.ra x.right.length x.rc]
theorem BR.low {w : World} {Bb n : Nat} {S : List BackM → Prop} {F : List BS} {M : List Bool} {b0 : BackM} {x : ProdM} {B0 : List BackM} {l : List (Nat × SymM)} {W V : World} (h : BR w Bb n S F M b0 x B0 l W) (hB : Below (w.heap.size + 4) W V) (hb : Bb < w.heap.size) : BR w Bb n S F M b0 x B0 l V := by
  obtain ⟨m, B, nb, h1, h2, h3, h4, h5⟩ := h.ex
  exact ⟨⟨m, B, nb, h1, h2, h3.low hB (by omega) hb, h4.below hB (by omega), h5.below hB (by omega)⟩, h.box.below hB (by omega)⟩
theorem bkS_next {l : List SymM} {pre : List (Nat × SymM)} {m i : Nat} {s : SymM} (h : bkS l l.length = pre ++ bkS l m) (hm : m ≤ l.length) (hp : pre ++ [(i, s)] <+: bkS l l.length) : m = i + 1 ∧ l[i]? = some s := by
  rw [h, List.prefix_append_right_inj] at hp
  cases m with
  | zero => simp [bkS] at hp
  | succ m =>
    obtain ⟨y, hy⟩ : ∃ y, l[m]? = some y := ⟨_, List.getElem?_eq_getElem (by omega)⟩
    rw [bkS_succ l m y hy, List.cons_prefix_cons] at hp
    obtain ⟨h1, _⟩ := hp
    cases h1
    exact ⟨rfl, hy⟩

set_option maxRecDepth 100000 in
set_option maxHeartbeats 8000000 in
theorem f106_any (x : ProdM) (F : List BS) (M : List Bool) (B : List BackM) (Bh Bx Bb Bf Be n k : Nat) (S : List BackM → Prop) (w0 w : World) (hlow : Below w0.heap.size w0 w) (h0 : w0.heap.size ≤ Bb) (hh : Blk w Bh 120 #[.slice (some ⟨Bb, 0, none⟩) n n]) (hx : Blk w Bx 118 #[.slice (some ⟨Bf, 0, none⟩) n n, .slice (some ⟨Be, 0, none⟩) n n]) (hb : Blk w Bb 123 (backsC B)) (hf : Blk w Bf 47 (setsC F)) (he : Blk w Be 4 (bools M)) (hB : B.length = n) (hF : F.length = n) (hM : M.length = n) (hn : n ≤ 1000)
    (hp : ProdIn w0 x) (hr : x.right.length ≤ 30) (hkd : ∀ s, s ∈ x.right → s.kind = 0 ∨ s.kind = 1) (hsy : ∀ s, s ∈ x.right → s.kind = 1 → ∃ k : Nat, s.sort = k ∧ k < n) (hk : x.left = k) (hkn : k < n) (hS : S B)
    (hSt : ∀ (B' : List BackM) (i : Nat) (s : SymM), S B' → B'.length = n → x.right[i]? = some s → s.kind = 1 → (B.getD k noB).there = true → S (B'.set s.sort.toNat ((B'.getD s.sort.toNat noB).join (hereL F M (B.getD k noB) (x.right.drop (i + 1)))))) :
    Calls Tryz.prog 106 #[prodV x, .pointer (some ⟨Bh, 0, none⟩), .pointer (some ⟨Bx, 0, none⟩)] w (F106Post w Bb n S F M x B) := by
  obtain ⟨b0, hb0⟩ : ∃ b0, B[k]? = some b0 := ⟨_, List.getElem?_eq_getElem (by omega)⟩
  have hget : B.getD k noB = b0 := by rw [List.getD_eq_getElem?_getD, hb0]; rfl
  have hBA := backsC_at hb0
  obtain ⟨i0, iS, i5⟩ := hBA.cells
  have c0 := (hb.cell (k * 6)).trans i0
  have c1 := (hb.cell (k * 6 + 1 + 0)).trans (set_cell iS (j := 0) (by decide))
  have c2 := (hb.cell (k * 6 + 1 + 1)).trans (set_cell iS (j := 1) (by decide))
  have c3 := (hb.cell (k * 6 + 1 + 2)).trans (set_cell iS (j := 2) (by decide))
  have c4 := (hb.cell (k * 6 + 1 + 3)).trans (set_cell iS (j := 3) (by decide))
  have c5 := (hb.cell (k * 6 + 5)).trans i5
  simp only [Nat.add_zero, Nat.add_assoc, Nat.reduceAdd] at c1 c2 c3 c4
  have cl := hb.lt
  have hh0 := hh.cell 0
  have hhl := hh.lt
  simp only [List.getElem?_toArray, List.getElem?_cons_zero] at hh0
  have kz1 : (k : Int) < (n : Int) := by omega
  have kz0 : (0 : Int) ≤ (k : Int) := by omega
  have hne : Bh ≠ Bb ∧ Bx ≠ Bb ∧ Bf ≠ Bb ∧ Be ≠ Bb := ⟨blk_ne hh hb (by decide), blk_ne hx hb (by decide), blk_ne hf hb (by decide), blk_ne he hb (by decide)⟩
  have HAll := Lib.hid (And.intro hlow (And.intro h0 (And.intro hh (And.intro hx (And.intro hb (And.intro hf (And.intro he (And.intro hp (And.intro hkd (And.intro hsy (And.intro hSt (And.intro hne (And.intro hS (And.intro hB (And.intro hF hM)))))))))))))))
  have HGet := Lib.hid (And.intro hget hk)
  have hE : prodC x = #[.int .i64 (k : Int), .slice x.ra x.right.length x.rc, .string x.cons, .int .i64 x.role, .bool x.prefer, .bool x.avoid, .int .i64 x.frm] := by unfold prodC; rw [hk]
  clear hlow h0 hh hx hb hf he hp hkd hsy hSt hne hS hB hF hM hb0 hBA i0 iS i5 hk hget
  unfold prodV
  rw [hE]
  refine (callsIn_wide (n := 8)).1 ?_
  refine callsIn_of_wp_marks Tryz.func106 rfl trivial ?_ rfl
  simp only [Tryz.ntmps106, List.size_toArray, List.length_cons, List.length_nil, Nat.reduceAdd, Nat.reduceSub, Array.replicate_succ, Array.replicate_zero, List.push_toArray, List.append_toArray, List.nil_append, List.cons_append]
  cases hbt : b0.there with
  | false =>
    rw [hbt] at c0
    have HZ : Hid (∀ W : World, Below w.heap.size w W → F106Post w Bb n S F M x B (.returned (.bool false)) W) := Lib.hid (fun W hW => ⟨B, false, rfl, grown_below hW _, HAll.out.2.2.2.2.1.below hW HAll.out.2.2.2.2.1.lt, HAll.out.2.2.2.2.2.2.2.2.2.2.2.2.2.1, HAll.out.2.2.2.2.2.2.2.2.2.2.2.2.1, .inl ⟨rfl, rfl, fun h => by
      rw [HGet.out.2, Int.toNat_natCast, HGet.out.1, hbt] at h
      cases h⟩⟩)
    have HBel : Hid (∀ o1 o2 o3, Below w.heap.size w (((w.alloc o1).alloc o2).alloc o3)) := Lib.hid (fun _ _ _ => (((Below.refl _ _).alloc (Nat.le_refl _) _).alloc (by simp) _).alloc (by simp; omega) _)
    gi_wp2
    refine ⟨_, results_tmp rfl _ _ _, ?_⟩
    exact HZ.out _ (HBel.out _ _ _)
  | true =>
    rw [hbt] at c0
    have HW0 : Hid (∃ W0, W0 = (((w.alloc (.cells #[.int .i64 (k : Int), .slice x.ra x.right.length x.rc, .string x.cons, .int .i64 x.role, .bool x.prefer, .bool x.avoid, .int .i64 x.frm] 65)).alloc (.cells #[.bool true, .int .u64 (wdI b0.bytes 0), .int .u64 (wdI b0.bytes 1), .int .u64 (wdI b0.bytes 2), .int .u64 (wdI b0.bytes 3), .bool b0.fin] 123)).alloc (.cells #[.bool false] 4)).alloc (.cells #[.slice x.ra x.right.length x.rc] 62)) := Lib.hid ⟨_, rfl⟩
    gi_wp2_with (refine ⟨trivial, ?_⟩; gi_at_call 107; refine (callsIn_wide.2 (backward_sym _ _ _ _)).mono ?_; rintro e w' ⟨rfl, rfl⟩)
    obtain ⟨W0, hW0⟩ := HW0.out
    clear HW0
    rw [← hW0]
    have hs0 : W0.heap.size = w.heap.size + 4 := by rw [hW0]; simp
    have hb0C : #[.bool true, .int .u64 (wdI b0.bytes 0), .int .u64 (wdI b0.bytes 1), .int .u64 (wdI b0.bytes 2), .int .u64 (wdI b0.bytes 3), .bool b0.fin] = backC b0 := by unfold backC; rw [hbt]
    have hlow0 : Below w.heap.size w W0 := by rw [hW0]; exact ((((Below.refl _ w).alloc (Nat.le_refl _) _).alloc (by simp) _).alloc (by simp; omega) _).alloc (by simp; omega) _
    have hI0 : BR w Bb n S F M b0 x B [] W0 := by
      have k1 : Blk W0 (w.heap.size + 1) 123 (backC b0) := by rw [hW0, hb0C]; exact ((blk_new2 w _ 123 _).alloc _).alloc _
      have k2 : Blk W0 (w.heap.size + 2) 4 #[.bool false] := by
        have h := blk_new2 (w.alloc (.cells #[.int .i64 (k : Int), .slice x.ra x.right.length x.rc, .string x.cons, .int .i64 x.role, .bool x.prefer, .bool x.avoid, .int .i64 x.frm] 65)) (.cells #[.bool true, .int .u64 (wdI b0.bytes 0), .int .u64 (wdI b0.bytes 1), .int .u64 (wdI b0.bytes 2), .int .u64 (wdI b0.bytes 3), .bool b0.fin] 123) 4 #[.bool false]
        rw [World.size_alloc] at h
        rw [hW0]; exact h.alloc _
      have k3 : Blk W0 (w.heap.size + 3) 62 #[.slice x.ra x.right.length x.rc] := by
        have h := Blk.new (((w.alloc (.cells #[.int .i64 (k : Int), .slice x.ra x.right.length x.rc, .string x.cons, .int .i64 x.role, .bool x.prefer, .bool x.avoid, .int .i64 x.frm] 65)).alloc (.cells #[.bool true, .int .u64 (wdI b0.bytes 0), .int .u64 (wdI b0.bytes 1), .int .u64 (wdI b0.bytes 2), .int .u64 (wdI b0.bytes 3), .bool b0.fin] 123)).alloc (.cells #[.bool false] 4)) 62 #[.slice x.ra x.right.length x.rc]
        simp only [World.size_alloc] at h
        rw [hW0]; exact h
      refine ⟨⟨x.right.length, B, false, by simp, Nat.le_refl _, ⟨grown_below hlow0 _, HAll.out.2.2.2.2.1.below hlow0 HAll.out.2.2.2.2.1.lt, HAll.out.2.2.2.2.2.2.2.2.2.2.2.2.2.1, HAll.out.2.2.2.2.2.2.2.2.2.2.2.2.1, .inl ⟨rfl, rfl, fun i s hi hs => ?_⟩⟩, ?_, k2⟩, k3⟩
      · have := (List.getElem?_eq_some_iff.1 hs).1
        omega
      · rw [List.drop_length]; exact k1
    have hRow : ∀ A, Below w0.heap.size w0 A → RowSym A x.ra x.right := fun A hA => RowOf.belowN HAll.out.2.2.2.2.2.2.2.1 hA
    have HRow := Lib.hid hRow
    clear hW0 c0 c1 c2 c3 c4 c5 hh0 kz1 kz0 hRow hb0C hlow0
    refine rangeFunc_low (by decide) (gf := 134) (lb := #[.pointer (some ⟨w.heap.size + 1 + 1 + 1, 0, none⟩)]) rfl (enters_of Tryz.func134 (by kernel_rfl) rfl)
      (backs_low (8 - 1) (by decide) (w.heap.size + 1 + 1 + 1) x.ra x.rc x.right (by omega) W0) (fun _ => rfl)
      (fun pre W => BR w Bb n S F M b0 x B pre W) (fun _ _ _ => False)
      (fun t A B' h hB => h.low (by rw [← hs0]; exact hB) cl) (fun c t A B h hB => h)
      (fun t A h => ⟨h.box.cell 0, HRow.out A (by obtain ⟨m, B', nb, h1, h2, h3, _⟩ := h.ex; exact HAll.out.1.grown h3.g HAll.out.1.size (fun k e => by cases e; exact HAll.out.2.1))⟩) hI0 ?round ?done ?stop
    case round =>
      intro lp pre x2 W hpre hI hsz
      obtain ⟨i, s⟩ := x2
      obtain ⟨m, Bk, nb, hb1, hb2, hb3, hb4, hb5⟩ := hI.ex
      obtain ⟨rfl, hs⟩ := bkS_next hb1 hb2 hpre
      have hI' := hI.box
      clear hI0 hI
      simp only [encS]
      unfold symV symC
      gi_wp2
      refine ⟨KeepUp.of_below ((Below.refl W.heap.size W).alloc (Nat.le_refl _) _) (by omega), ?_⟩
      rintro W2 ⟨o, hW2⟩ _
      have hB2 : Below (w.heap.size + 4) W W2 := by rw [hW2]; exact putB ((Below.refl (w.heap.size + 4) W).alloc (by omega) _) (by omega)
      have hs2 : Blk W2 W.heap.size 60 (symC s) := by rw [hW2]; exact (World.putObj_heap_other (by omega)).trans (Blk.new W 60 _)
      have hI2 := hb3.low hB2 (by omega) cl
      have h42 := hb4.below hB2 (by omega)
      have h52 := hb5.below hB2 (by omega)
      have hbox2 := hI'.below hB2 (by omega)
      have hx2 := HAll.out.2.2.2.1.kept hI2.g (by simpa using HAll.out.2.2.2.2.2.2.2.2.2.2.2.1.2.1)
      have hh2 := HAll.out.2.2.1.kept hI2.g (by simpa using HAll.out.2.2.2.2.2.2.2.2.2.2.2.1.1)
      have hf2 := HAll.out.2.2.2.2.2.1.kept hI2.g (by simpa using HAll.out.2.2.2.2.2.2.2.2.2.2.2.1.2.2.1)
      have he2 := HAll.out.2.2.2.2.2.2.1.kept hI2.g (by simpa using HAll.out.2.2.2.2.2.2.2.2.2.2.2.1.2.2.2)
      obtain ⟨Bs, hBs⟩ : ∃ Bs, Bs = W.heap.size := ⟨_, rfl⟩
      have hBsz : w.heap.size + 6 ≤ Bs := by omega
      rw [← hBs] at hs2
      have HBs := Lib.hid hBs
      have HS := Lib.hid (And.intro hs (And.intro hb1 hb2))
      have hsm := List.mem_of_getElem? hs
      have hkd := HAll.out.2.2.2.2.2.2.2.2.1 s hsm
      have hsy := HAll.out.2.2.2.2.2.2.2.2.2.1 s hsm
      obtain ⟨hh, hhe⟩ : ∃ hh, hh = hereL F M b0 (x.right.drop (i + 1)) := ⟨_, rfl⟩
      have HHe := Lib.hid hhe
      rw [← hhe] at h42
      -- what is left of the round, once the test is behind it
      have HEnd : Hid (∀ (V V' : World) (B' : List BackM) (nb' : Bool), BI w Bb n S F M b0 x.right B B' nb' i V → Blk V (w.heap.size + 2) 4 #[.bool nb'] → Blk V (w.heap.size + 3) 62 #[.slice x.ra x.right.length x.rc] → KeepUp W0.heap.size W2 V → V.grownBy V' (some (w.heap.size + 1)) → Blk V' (w.heap.size + 1) 123 (backC (aheadM hh (symF F s) (symE M s))) → KeepUp W0.heap.size W2 V' ∧ BR w Bb n S F M b0 x B (pre ++ [(i, s)]) V') := Lib.hid (fun V V' B' nb' h1 h2 h3 h4 h5 h6 => by
        refine ⟨h4.trans ⟨h5.size, fun k o' hk ho => (h5.block k (Array.getElem?_eq_some_iff.1 ho).1 (by simp; omega)).trans ho⟩, ⟨⟨i, B', nb', ?_, by omega, ?_, ?_, h2.kept h5 (by simp)⟩, h3.kept h5 (by simp)⟩⟩
        · rw [hb1, bkS_succ _ _ _ hs, List.append_assoc]; rfl
        · exact ⟨⟨h5.os.trans h1.g.os, h5.tape.trans h1.g.tape, h5.output.trans h1.g.output, Nat.le_trans h1.g.size h5.size, fun j hj hne => (h5.block j (Nat.lt_of_lt_of_le hj h1.g.size) (by simp; omega)).trans (h1.g.block j hj hne)⟩, h1.blk.kept h5 (by simp; omega), h1.len, h1.snd, h1.st⟩
        · rw [hereL_drop hs, ← HHe.out]; exact h6)
      clear hBs hW2 hB2 hb1 hb2 hb3 hb4 hb5 hI' hs hhe hsm
      obtain ⟨s0, s1, s2, s3, s4, s5⟩ := cells6q (show Blk W2.drew Bs 60 #[.int .i64 s.kind, .int .u64 (wdI s.set 0), .int .u64 (wdI s.set 1), .int .u64 (wdI s.set 2), .int .u64 (wdI s.set 3), .int .i64 s.sort] from hs2.drew)
      have hsl := hs2.drew.lt
      have hkeep0 : KeepUp W0.heap.size W2 W2.drew := (KeepUp.refl _ W2).drew
      have HV := Lib.hid (And.intro hI2.g (And.intro hs2 (And.intro h42 (And.intro h52 (And.intro hbox2 (And.intro hx2 (And.intro hf2 he2)))))))
      rcases hkd with hk0 | hk1
      · rw [hk0] at s0
        have hI3 : BI w Bb n S F M b0 x.right B Bk nb i W2 := ⟨hI2.g, hI2.blk, hI2.len, hI2.snd, hI2.st.imp (fun ⟨h1, h2, h3⟩ => ⟨h1, h2, fun i' s' hi hs' hk' => by
          by_cases e : i' = i
          · subst e
            rw [HS.out.1] at hs'; cases hs'
            omega
          · exact h3 i' s' (by omega) hs' hk'⟩) id⟩
        have HI3 := Lib.hid hI3
        clear hI3 hI2 hs2 h42 h52 hbox2 hx2 hh2 hf2 he2
        gi_wp2
        rw [← HBs.out]
        refine wpIn_region_still_tail 9 (by kernel_rfl) (by kernel_rfl) (by kernel_rfl) ?_
        show wpStill _ _ (World.drew W2) _ _ _
        obtain ⟨V, hV⟩ : ∃ V, V = World.drew W2 := ⟨_, rfl⟩
        have HVV := Lib.hid hV
        rw [← hV] at s0 s1 s2 s3 s4 s5 hsl hkeep0
        rw [← hV]
        clear hV
        simp only [List.take_succ_cons, List.take_zero, List.drop_succ_cons, List.drop_zero]
        repeat still_step
        refine wpStill_nil ?_
        show wpListIn _ _ _ _ _ _ _ (World.drew W2)
        rw [← HVV.out]
        clear s0 s1 s2 s3 s4 s5 hsl
        gi_wp2
        refine ⟨trivial, ?_⟩
        gi_wp2
        have hB0 := (Below.refl W2.heap.size W2).drew
        rw [← HVV.out] at hB0
        obtain ⟨k1, k2, k3, k4, k5, k6, k7, k8⟩ := HV.out
        refine r8_any _ V Bx Bf Be n (w.heap.size + 1) Bs F M hh s (k6.below hB0 k6.lt) (k7.below hB0 k7.lt) (k8.below hB0 k8.lt) (k3.below hB0 k3.lt) (k2.below hB0 k2.lt) HAll.out.2.2.2.2.2.2.2.2.2.2.2.2.2.2.1 HAll.out.2.2.2.2.2.2.2.2.2.2.2.2.2.2.2 hn (.inl hk0) hsy rfl rfl rfl rfl (fun a W' hg hb => ?_)
        exact HEnd.out V W' Bk nb (HI3.out.on hB0) (k4.below hB0 k4.lt) (k5.below hB0 k5.lt) hkeep0 hg hb
      · rw [hk1] at s0
        obtain ⟨ks, hks, hksn⟩ := hsy hk1
        obtain ⟨bv, hbv⟩ : ∃ bv, Bk[ks]? = some bv := ⟨_, List.getElem?_eq_getElem (by rw [hI2.len]; exact hksn)⟩
        have hgv : Bk.getD s.sort.toNat noB = bv := by rw [hks, Int.toNat_natCast, List.getD_eq_getElem?_getD, hbv]; rfl
        have hSnew : S (Bk.set ks (bv.join hh)) := by
          have h := HAll.out.2.2.2.2.2.2.2.2.2.2.1 Bk i s hI2.snd hI2.len HS.out.1 hk1 (by rw [HGet.out.1]; exact hbt)
          rw [hgv, HGet.out.1, ← HHe.out, hks, Int.toNat_natCast] at h
          exact h
        rw [hks] at s5
        have g0 := (hh2.drew).cell 0
        have gl := hh2.drew.lt
        simp only [List.getElem?_toArray, List.getElem?_cons_zero] at g0
        obtain ⟨d0, d1, d2, d3, d4, d5⟩ := cells6b h42.drew
        have dl := h42.drew.lt
        have z1 : (ks : Int) < (n : Int) := by omega
        have z0 : (0 : Int) ≤ (ks : Int) := by omega
        have HI2 := Lib.hid hI2
        have HGr := Lib.hid (bgrow_any Bb (ks * 6) (backsC Bk) bv hh W2.drew hI2.blk.drew (backsC_at hbv))
        have HBv := Lib.hid (And.intro hbv (And.intro hgv (And.intro hks (And.intro hSnew (And.intro hksn hk1)))))
        clear hbv hgv hSnew hks hI2 hs2 h42 h52 hbox2 hx2 hh2 hf2 he2
        obtain ⟨sk, ss, so⟩ := s
        unfold backV at HGr
        unfold backC at HGr
        unfold BGrowPost at HGr
        obtain ⟨q, hq⟩ : ∃ q, q = backEq (bv.join hh) bv := ⟨_, rfl⟩
        have HQ := Lib.hid hq
        rw [← hq] at HGr
        clear hq
        cases q with
        | true =>
          gi_wp2
          rw [← HBs.out]
          refine wpIn_region_still_tail 9 (by kernel_rfl) (by kernel_rfl) (by kernel_rfl) ?_
          show wpStill _ _ (World.drew W2) _ _ _
          obtain ⟨V, hV⟩ : ∃ V, V = World.drew W2 := ⟨_, rfl⟩
          have HVV := Lib.hid hV
          rw [← hV] at s0 s1 s2 s3 s4 s5 hsl hkeep0 g0 gl d0 d1 d2 d3 d4 d5 dl HGr
          rw [← hV]
          clear hV
          simp only [List.take_succ_cons, List.take_zero, List.drop_succ_cons, List.drop_zero]
          repeat still_step
          refine wpStill_nil ?_
          show wpListIn _ _ _ _ _ _ _ (World.drew W2)
          rw [← HVV.out]
          clear s0 s1 s2 s3 s4 s5 hsl g0 gl d0 d1 d2 d3 d4 d5 dl
          have HB0 : Hid (Below W2.heap.size W2 V) := Lib.hid (by rw [HVV.out]; exact (Below.refl W2.heap.size W2).drew)
          gi_wp2_with (refine ⟨trivial, ?_⟩; gi_at_call 108; refine (callsIn_round HGr.out).mono ?_; rintro e w6 ⟨rfl, hg6, ds, hd1, hd2, hd3, hd4⟩; have t60 := ((HV.out.2.2.2.1.below HB0.out HV.out.2.2.2.1.lt).kept hg6 (ne_some (by omega))).cell 0; have t6f := ((HV.out.2.2.2.1.below HB0.out HV.out.2.2.2.1.lt).kept hg6 (ne_some (by omega))).frozen 0; have t6l := ((HV.out.2.2.2.1.below HB0.out HV.out.2.2.2.1.lt).kept hg6 (ne_some (by omega))).lt; simp only [List.getElem?_toArray, List.getElem?_cons_zero] at t60)
          have hB0 := HB0.out
          obtain ⟨k1, k2, k3, k4, k5, k6, k7, k8⟩ := HV.out
          obtain rfl := backsC_put (by rw [HI2.out.len]; exact hksn) hd2 hd3 hd4
          have hIV := HI2.out.on hB0
          have hgw : w.grownBy w6 (some Bb) := grown_trans hIV.g hg6
          have hkw : KeepUp W0.heap.size V w6 := ⟨hg6.size, fun k o' hk ho => (hg6.block k (Array.getElem?_eq_some_iff.1 ho).1 (by simp; omega)).trans ho⟩
          have n2 := (k2.below hB0 k2.lt).kept hg6 (ne_some (by omega))
          have n3 := (k3.below hB0 k3.lt).kept hg6 (ne_some (by omega))
          have n4 := (k4.below hB0 k4.lt).kept hg6 (ne_some (by omega))
          have n5 := (k5.below hB0 k5.lt).kept hg6 (ne_some (by omega))
          have n6 := (k6.below hB0 k6.lt).kept hg6 (by simpa using HAll.out.2.2.2.2.2.2.2.2.2.2.2.1.2.1)
          have n7 := (k7.below hB0 k7.lt).kept hg6 (by simpa using HAll.out.2.2.2.2.2.2.2.2.2.2.2.1.2.2.1)
          have n8 := (k8.below hB0 k8.lt).kept hg6 (by simpa using HAll.out.2.2.2.2.2.2.2.2.2.2.2.1.2.2.2)
          have hsame : bv.join hh = bv := backEq_iff.1 HQ.out.symm
          have hset : Bk.set ks (bv.join hh) = Bk := by
            rw [hsame]
            refine List.ext_getElem? fun j => ?_
            by_cases e : ks = j
            · subst e; rw [List.getElem?_set_self (by rw [HI2.out.len]; exact hksn), HBv.out.1]
            · rw [List.getElem?_set_ne e]
          rw [hset] at hd1
          refine r8_any _ w6 Bx Bf Be n (w.heap.size + 1) Bs F M hh ⟨sk, ss, so⟩ n6 n7 n8 n3 n2 HAll.out.2.2.2.2.2.2.2.2.2.2.2.2.2.2.1 HAll.out.2.2.2.2.2.2.2.2.2.2.2.2.2.2.2 hn (.inr hk1) hsy rfl rfl rfl rfl (fun a W' hg hb => ?_)
          refine HEnd.out w6 W' Bk nb ⟨hgw, hd1, HI2.out.len, HI2.out.snd, HI2.out.st.imp (fun ⟨h1, h2, h3⟩ => ⟨h1, h2, fun i' s' hi hs' hk' => ?_⟩) id⟩ n4 n5 (hkeep0.trans hkw) hg hb
          by_cases e : i' = i
          · subst e
            rw [HS.out.1] at hs'; cases hs'
            rw [← h2, HBv.out.2.1, ← HHe.out]
            exact hsame
          · exact h3 i' s' (by omega) hs' hk'
        | false =>
          gi_wp2
          rw [← HBs.out]
          refine wpIn_region_still_tail 9 (by kernel_rfl) (by kernel_rfl) (by kernel_rfl) ?_
          show wpStill _ _ (World.drew W2) _ _ _
          obtain ⟨V, hV⟩ : ∃ V, V = World.drew W2 := ⟨_, rfl⟩
          have HVV := Lib.hid hV
          rw [← hV] at s0 s1 s2 s3 s4 s5 hsl hkeep0 g0 gl d0 d1 d2 d3 d4 d5 dl HGr
          rw [← hV]
          clear hV
          simp only [List.take_succ_cons, List.take_zero, List.drop_succ_cons, List.drop_zero]
          repeat still_step
          refine wpStill_nil ?_
          show wpListIn _ _ _ _ _ _ _ (World.drew W2)
          rw [← HVV.out]
          clear s0 s1 s2 s3 s4 s5 hsl g0 gl d0 d1 d2 d3 d4 d5 dl
          have HB0 : Hid (Below W2.heap.size W2 V) := Lib.hid (by rw [HVV.out]; exact (Below.refl W2.heap.size W2).drew)
          gi_wp2_with (refine ⟨trivial, ?_⟩; gi_at_call 108; refine (callsIn_round HGr.out).mono ?_; rintro e w6 ⟨rfl, hg6, ds, hd1, hd2, hd3, hd4⟩; have t60 := ((HV.out.2.2.2.1.below HB0.out HV.out.2.2.2.1.lt).kept hg6 (ne_some (by omega))).cell 0; have t6f := ((HV.out.2.2.2.1.below HB0.out HV.out.2.2.2.1.lt).kept hg6 (ne_some (by omega))).frozen 0; have t6l := ((HV.out.2.2.2.1.below HB0.out HV.out.2.2.2.1.lt).kept hg6 (ne_some (by omega))).lt; simp only [List.getElem?_toArray, List.getElem?_cons_zero] at t60)
          have hB0 := HB0.out
          obtain ⟨k1, k2, k3, k4, k5, k6, k7, k8⟩ := HV.out
          obtain rfl := backsC_put (by rw [HI2.out.len]; exact hksn) hd2 hd3 hd4
          have hIV := HI2.out.on hB0
          have hgw : w.grownBy w6 (some Bb) := grown_trans hIV.g hg6
          have hkw : KeepUp W0.heap.size V w6 := ⟨hg6.size, fun k o' hk ho => (hg6.block k (Array.getElem?_eq_some_iff.1 ho).1 (by simp; omega)).trans ho⟩
          have n2 := (k2.below hB0 k2.lt).kept hg6 (ne_some (by omega))
          have n3 := (k3.below hB0 k3.lt).kept hg6 (ne_some (by omega))
          have n4 := (k4.below hB0 k4.lt).kept hg6 (ne_some (by omega))
          have n5 := (k5.below hB0 k5.lt).kept hg6 (ne_some (by omega))
          have n6 := (k6.below hB0 k6.lt).kept hg6 (by simpa using HAll.out.2.2.2.2.2.2.2.2.2.2.2.1.2.1)
          have n7 := (k7.below hB0 k7.lt).kept hg6 (by simpa using HAll.out.2.2.2.2.2.2.2.2.2.2.2.1.2.2.1)
          have n8 := (k8.below hB0 k8.lt).kept hg6 (by simpa using HAll.out.2.2.2.2.2.2.2.2.2.2.2.1.2.2.2)
          have hdiff : bv.join hh ≠ bv := fun e => by
            have := backEq_iff.2 e
            rw [← HQ.out] at this; cases this
          have hlt := sizeB_set HBv.out.1 (cntB_join hdiff)
          have hb6 : Below w.heap.size w6 (w6.setCell ⟨w.heap.size + 1 + 1, 0, none⟩ (.bool true)) := (Below.refl _ _).setCell (p := ⟨w.heap.size + 1 + 1, 0, none⟩) (by show w.heap.size ≤ w.heap.size + 1 + 1; omega) _
          have hst : sizeB (Bk.set ks (bv.join hh)) < sizeB B := by
            rcases HI2.out.st with ⟨_, h2, _⟩ | ⟨_, h2⟩
            · rw [← h2]; exact hlt
            · omega
          have hne2 : ∀ {c : Nat}, c ≠ w.heap.size + 2 → c ≠ (⟨w.heap.size + 1 + 1, 0, none⟩ : Addr).block := fun h => h
          have l6 := k6.lt
          refine r8_any _ (w6.setCell ⟨w.heap.size + 1 + 1, 0, none⟩ (.bool true)) Bx Bf Be n (w.heap.size + 1) Bs F M hh ⟨sk, ss, so⟩ (n6.other (hne2 (by have := HAll.out.2.2.2.1.lt; omega)) _) (n7.other (hne2 (by have := HAll.out.2.2.2.2.2.1.lt; omega)) _) (n8.other (hne2 (by have := HAll.out.2.2.2.2.2.2.1.lt; omega)) _) (n3.other (hne2 (by omega)) _) (n2.other (hne2 (by omega)) _) HAll.out.2.2.2.2.2.2.2.2.2.2.2.2.2.2.1 HAll.out.2.2.2.2.2.2.2.2.2.2.2.2.2.2.2 hn (.inr hk1) hsy rfl rfl rfl rfl (fun a W' hg hb => ?_)
          exact HEnd.out _ W' (Bk.set ks (bv.join hh)) true ⟨⟨hb6.os.trans hgw.os, hb6.tape.trans hgw.tape, hb6.output.trans hgw.output, Nat.le_trans hgw.size hb6.size, fun j hj hne => (hb6.block j hj).trans (hgw.block j hj hne)⟩, hd1.other (hne2 (by omega)) _, by rw [List.length_set]; exact HI2.out.len, HBv.out.2.2.2.1, .inr ⟨rfl, hst⟩⟩ (n4.set 0 _) (n5.other (hne2 (by omega)) _) ((hkeep0.trans hkw).setR (by show w.heap.size + 2 < _; omega) _) hg hb
    case done =>
      intro D W1 hD hI1 hK1
      obtain ⟨m, Bk, nb, hb1, hb2, hb3, hb4, hb5⟩ := hI1.ex
      obtain rfl : m = 0 := by
        have := congrArg List.length hb1
        rw [List.length_append] at this
        have e : (bkS x.right m).length = m := by simp [bkS]; omega
        omega
      have c0 := hb5.cell 0
      have cl' := hb5.lt
      simp only [List.getElem?_toArray, List.getElem?_cons_zero] at c0
      have HZ : Hid (∀ o, F106Post w Bb n S F M x B (.returned (.bool nb)) (W1.putObj D o)) := Lib.hid (fun o => by
        have hB := putB (o := o) (Below.refl w.heap.size W1) (D := D) (by omega)
        have hb6 := hb3.low hB (Nat.le_refl _) cl
        exact ⟨Bk, nb, rfl, hb6.g, hb6.blk, hb6.len, hb6.snd, hb6.st.imp (fun ⟨h1, h2, h3⟩ => ⟨h1, h2, fun _ i s hs hk => by
          have := h3 i s (Nat.zero_le _) hs hk
          rw [HGet.out.2, Int.toNat_natCast, HGet.out.1]
          exact this⟩) id⟩)
      clear hI1 hI0 hb3 hb4 hb5
      gi_wp2
      refine ⟨by simp, .inl ⟨_, _, rfl, run_takeDeferred hK1, ?_⟩⟩
      refine ⟨_, results_tmp rfl _ _ _, ?_⟩
      exact HZ.out _
    case stop =>
      rintro _ _ _ _ _ _ h
      exact h.elim
end Go.Proofs.YtodnlcbnbkkanaaGreatDoor
end
section
namespace Go.Proofs.YtodnlcbnbkkanaaGreatDoor
open Go Go.RowKit

inductive Ctx (g : GramM) : Nat → List UInt8 → Prop
  | start : (∃ t, TX g g.start.toNat t) → Ctx g g.start.toNat []
  | step {x : ProdM} {i : Nat} {s : SymM} {u v : List UInt8} : x ∈ g.prods → treeP x → (∀ y, y ∈ x.right → ∃ t, SymT (TX g) y t) → x.right[i]? = some s → s.kind = 1 → Ctx g x.left.toNat u → TXs (TX g) (x.right.drop (i + 1)) v → Ctx g s.sort.toNat (v ++ u)
def SnH (W : List UInt8 → Prop) (b : BackM) : Prop := (b.there = true → ∃ u, W u) ∧ (∀ c : UInt8, b.bytes.getLsbD c.toNat = true → ∃ u, W (c :: u)) ∧ (b.fin = true → W [])
def CmH (b : BackM) (u : List UInt8) : Prop := b.there = true ∧ (u = [] → b.fin = true) ∧ ∀ c u', u = c :: u' → b.bytes.getLsbD c.toNat = true
theorem SnH.imp {W V : List UInt8 → Prop} {b : BackM} (h : SnH W b) (hi : ∀ u, W u → V u) : SnH V b :=
  ⟨fun e => let ⟨u, hu⟩ := h.1 e; ⟨u, hi u hu⟩, fun c e => let ⟨u, hu⟩ := h.2.1 c e; ⟨u, hi _ hu⟩, fun e => hi _ (h.2.2 e)⟩
theorem SnH.join {W : List UInt8 → Prop} {a b : BackM} (h : SnH W a) (k : SnH W b) : SnH W (a.join b) := by
  refine ⟨fun e => ?_, fun c e => ?_, fun e => ?_⟩
  · have e : (a.there || b.there) = true := e
    rw [Bool.or_eq_true] at e
    exact e.elim h.1 k.1
  · have e : (a.bytes ||| b.bytes).getLsbD c.toNat = true := e
    rw [BitVec.getLsbD_or, Bool.or_eq_true] at e
    exact e.elim (h.2.1 c) (k.2.1 c)
  · have e : (a.fin || b.fin) = true := e
    rw [Bool.or_eq_true] at e
    exact e.elim h.2.2 k.2.2
def Then (g : GramM) (W : List UInt8 → Prop) (r : List SymM) (t : List UInt8) : Prop := ∃ v u, TXs (TX g) r v ∧ W u ∧ t = v ++ u
theorem here_sound {g : GramM} {F : List BS} {M : List Bool} (hF : SoundF g F) (hM : NullP g M) {W : List UInt8 → Prop} {b : BackM} (hb : SnH W b) (hne : ∃ u, W u) : ∀ (r : List SymM), (∀ s, s ∈ r → s.kind = 0 ∨ s.kind = 1) → (∀ s, s ∈ r → ∃ t, SymT (TX g) s t) → SnH (Then g W r) (hereL F M b r) := by
  intro r
  induction r with
  | nil => intro _ _; exact hb.imp fun u hu => ⟨[], u, rfl, hu, rfl⟩
  | cons s r ih =>
    intro hk ht
    have h := ih (fun s hs => hk s (by simp [hs])) (fun s hs => ht s (by simp [hs]))
    obtain ⟨u0, hu0⟩ := hne
    obtain ⟨v0, hv0⟩ := txs_of (fun s hs => ht s (by simp [hs]) : ∀ s, s ∈ r → ∃ t, SymT (TX g) s t)
    have hks := hk s (by simp)
    obtain ⟨t0, ht0⟩ := ht s (by simp)
    have hbyte : ∀ c : UInt8, (symF F s).getLsbD c.toNat = true → ∃ u, Then g W (s :: r) (c :: u) := fun c hc => by
      obtain ⟨t, ht⟩ := symF_text hF hks hc
      exact ⟨t ++ v0 ++ u0, c :: t ++ v0, u0, ⟨c :: t, v0, rfl, ht, hv0⟩, hu0, by simp⟩
    show SnH (Then g W (s :: r)) (aheadM (hereL F M b r) (symF F s) (symE M s))
    cases he : symE M s with
    | true =>
      have hnil := symE_text hM hks he
      have h2 := h.imp (V := Then g W (s :: r)) (fun t ⟨v, u, h1, h2, h3⟩ => ⟨v, u, ⟨[], v, rfl, hnil, h1⟩, h2, h3⟩)
      refine ⟨h2.1, fun c e => ?_, h2.2.2⟩
      have e : ((hereL F M b r).bytes ||| symF F s).getLsbD c.toNat = true := e
      rw [BitVec.getLsbD_or, Bool.or_eq_true] at e
      exact e.elim (h2.2.1 c) (hbyte c)
    | false =>
      exact ⟨fun _ => ⟨_, t0 ++ v0, u0, ⟨t0, v0, rfl, ht0, hv0⟩, hu0, rfl⟩, fun c e => hbyte c e, fun e => by cases e⟩
theorem here_complete {g : GramM} {F : List BS} {M : List Bool} (hF : FirstP g F) (hM : NullP g M) {b : BackM} {u : List UInt8} (hb : CmH b u) : ∀ (r : List SymM) (v : List UInt8), (∀ s, s ∈ r → s.kind = 0 ∨ s.kind = 1) → (∀ s, s ∈ r → s.kind = 1 → ∃ k : Nat, s.sort = k ∧ k < g.sorts.length) → TXs (TX g) r v → CmH (hereL F M b r) (v ++ u) := by
  intro r
  induction r with
  | nil => rintro v _ _ h; cases h; exact hb
  | cons s r ih =>
    rintro v hk hs ⟨a, c, rfl, h1, h2⟩
    have h := ih c (fun s h => hk s (by simp [h])) (fun s h => hs s (by simp [h])) h2
    have hks := hk s (by simp)
    show CmH (aheadM (hereL F M b r) (symF F s) (symE M s)) (a ++ c ++ u)
    cases a with
    | nil =>
      have he : symE M s = true := by
        rcases h1 with ⟨hk1, h1⟩ | ⟨_, c', hc1, _⟩
        · unfold symE
          rw [if_neg (by omega)]
          have := (hM.2 _).2 h1
          unfold lv
          rw [List.getD_eq_getElem?_getD, this]
          rfl
        · cases hc1
      rw [he, List.nil_append]
      refine ⟨h.1, h.2.1, fun d u' e => ?_⟩
      show ((hereL F M b r).bytes ||| symF F s).getLsbD d.toNat = true
      rw [BitVec.getLsbD_or, h.2.2 d u' e, Bool.true_or]
    | cons y ys =>
      have hbit : (symF F s).getLsbD y.toNat = true := by
        unfold symF
        rcases h1 with ⟨hk1, h1⟩ | ⟨hk1, c', hc1, hc2⟩
        · rw [if_neg (by omega)]
          obtain ⟨k, hsk, hkn⟩ := hs s (by simp) hk1
          rw [hsk, Int.toNat_natCast] at h1 ⊢
          obtain ⟨t, ht⟩ : ∃ t, F[k]? = some t := ⟨_, List.getElem?_eq_getElem (by rw [hF.1]; exact hkn)⟩
          rw [List.getD_eq_getElem?_getD, ht]
          exact (hF.2 k t ht y).2 ⟨ys, h1⟩
        · rw [if_pos (by omega)]
          rw [List.cons.injEq] at hc1
          rw [hc1.1]; exact hc2
      have hth : (aheadM (hereL F M b r) (symF F s) (symE M s)).there = true := by
        unfold aheadM
        split <;> exact h.1
      refine ⟨hth, fun e => (by cases e), fun d u' e => ?_⟩
      rw [List.cons_append, List.cons_append, List.cons.injEq] at e
      rw [← e.1]
      unfold aheadM
      split
      · show ((hereL F M b r).bytes ||| symF F s).getLsbD y.toNat = true
        rw [BitVec.getLsbD_or, hbit, Bool.or_true]
      · exact hbit
def BackP (g : GramM) (B : List BackM) : Prop := B.length = g.sorts.length ∧ ∀ (k : Nat) (b : BackM), B[k]? = some b → (b.there = true ↔ ∃ u, Ctx g k u) ∧ (∀ c : UInt8, b.bytes.getLsbD c.toNat = true ↔ ∃ u, Ctx g k (c :: u)) ∧ (b.fin = true ↔ Ctx g k [])
theorem BackP.unique {g : GramM} {B B' : List BackM} (h : BackP g B) (h' : BackP g B') : B = B' := by
  refine List.ext_getElem (h.1.trans h'.1.symm) fun k h1 h2 => ?_
  obtain ⟨a1, a2, a3⟩ := h.2 k _ (List.getElem?_eq_getElem h1)
  obtain ⟨b1, b2, b3⟩ := h'.2 k _ (List.getElem?_eq_getElem h2)
  have e1 : B[k].there = B'[k].there := Bool.eq_iff_iff.2 (a1.trans b1.symm)
  have e2 : B[k].bytes = B'[k].bytes := bs_ext fun c => (a2 c).trans (b2 c).symm
  have e3 : B[k].fin = B'[k].fin := Bool.eq_iff_iff.2 (a3.trans b3.symm)
  revert e1 e2 e3
  generalize B[k] = p
  generalize B'[k] = q
  obtain ⟨p1, p2, p3⟩ := p
  obtain ⟨q1, q2, q3⟩ := q
  rintro rfl rfl rfl
  rfl
def SoundB (g : GramM) (B : List BackM) : Prop := (∀ (k : Nat) (b : BackM), B[k]? = some b → SnH (Ctx g k) b) ∧ ((∃ t, TX g g.start.toNat t) → ∃ b, B[g.start.toNat]? = some b ∧ b.there = true ∧ b.fin = true)
theorem live_syms {g : GramM} (hs : MaySet g) {L : List Bool} (hL : Live g L) {x : ProdM} (hx : x ∈ livL g L) : ∀ y, y ∈ x.right → ∃ t, SymT (TX g) y t := by
  obtain ⟨hxm, hr, hlv⟩ := livL_mem.1 hx
  intro y hym
  by_cases hyk : y.kind = 1
  · rw [List.any_eq_false] at hlv
    have := hlv y hym
    unfold lacksQ at this
    rw [hyk] at this
    have hl : lv L y.sort = true := by simpa using this
    have hpv : PV g y.sort.toNat := (hL.2 _).1 (by
      unfold lv at hl
      rw [List.getD_eq_getElem?_getD] at hl
      cases e : L[y.sort.toNat]? with
      | none => rw [e] at hl; simp at hl
      | some v => rw [e] at hl; simp at hl; rw [hl])
    obtain ⟨t, ht⟩ := (pv_iff hs).1 hpv
    exact ⟨t, .inl ⟨hyk, ht⟩⟩
  · obtain ⟨c, hc⟩ := bv_bit (hs.set x hxm y hym hyk).2
    exact ⟨[c], .inr ⟨hyk, c, rfl, hc⟩⟩
theorem live_mem {g : GramM} (hs : MaySet g) {L : List Bool} (hL : Live g L) {x : ProdM} (hx : x ∈ g.prods) (hr : treeP x) (h : ∀ y, y ∈ x.right → ∃ t, SymT (TX g) y t) : x ∈ livL g L := by
  refine livL_mem.2 ⟨hx, hr, ?_⟩
  rw [List.any_eq_false]
  intro s hsx
  unfold lacksQ
  by_cases hkk : s.kind = 1
  · obtain ⟨v, hv⟩ := h s hsx
    rcases hv with ⟨_, hv⟩ | ⟨hv, _⟩
    · have hpv := (hL.2 _).2 ((pv_iff hs).2 ⟨v, hv⟩)
      have : lv L s.sort = true := by
        unfold lv
        rw [List.getD_eq_getElem?_getD, hpv]
        rfl
      rw [this]; simp
    · exact absurd hkk hv
  · have : (s.kind == 1) = false := by simpa using hkk
    rw [this]; simp
theorem SoundB.step {g : GramM} (hm : MayB g) (hs : MaySet g) {M L : List Bool} (hM : NullP g M) (hL : Live g L) {F : List BS} (hF : SoundF g F) {B : List BackM} (hB : SoundB g B) {x : ProdM} (hx : x ∈ livL g L) {b0 : BackM} (hb0 : SnH (Ctx g x.left.toNat) b0) (hth : b0.there = true) {i : Nat} {s : SymM} (hi : x.right[i]? = some s) (hk : s.kind = 1) :
    SoundB g (B.set s.sort.toNat ((B.getD s.sort.toNat noB).join (hereL F M b0 (x.right.drop (i + 1))))) := by
  have hsy := live_syms hs hL hx
  obtain ⟨hxm, hr, _⟩ := livL_mem.1 hx
  have hh := here_sound hF hM hb0 (hb0.1 hth) (x.right.drop (i + 1)) (fun s h => hm.kind x hxm s (List.mem_of_mem_drop h)) (fun s h => hsy s (List.mem_of_mem_drop h))
  have hh2 : SnH (Ctx g s.sort.toNat) (hereL F M b0 (x.right.drop (i + 1))) := hh.imp fun t ⟨v, u, h1, h2, h3⟩ => by rw [h3]; exact .step hxm hr hsy hi hk h2 h1
  refine ⟨fun k b hkb => ?_, fun ht => ?_⟩
  · rw [List.getElem?_set] at hkb
    split at hkb
    · next e =>
      split at hkb
      · next hlt =>
        cases hkb
        subst e
        refine SnH.join ?_ hh2
        rw [List.getD_eq_getElem?_getD, List.getElem?_eq_getElem hlt]
        exact hB.1 _ _ (List.getElem?_eq_getElem hlt)
      · cases hkb
    · exact hB.1 k b hkb
  · obtain ⟨b, h1, h2, h3⟩ := hB.2 ht
    by_cases e : s.sort.toNat = g.start.toNat
    · have hlt := (List.getElem?_eq_some_iff.1 h1).1
      refine ⟨_, by rw [e, List.getElem?_set_self hlt], ?_, ?_⟩
      · rw [List.getD_eq_getElem?_getD, h1]
        show (b.there || _) = true
        rw [h2, Bool.true_or]
      · rw [List.getD_eq_getElem?_getD, h1]
        show (b.fin || _) = true
        rw [h3, Bool.true_or]
    · exact ⟨b, by rw [List.getElem?_set_ne e]; exact h1, h2, h3⟩
theorem backP_of {g : GramM} (hm : MayB g) (hs : MaySet g) {M L : List Bool} (hM : NullP g M) (hL : Live g L) {F : List BS} (hF : FirstP g F) {B : List BackM} (hlen : B.length = g.sorts.length) (hB : SoundB g B) (hq : ∀ x, x ∈ livL g L → QuietB F M x B) : BackP g B := by
  have key : ∀ {k : Nat} {u : List UInt8}, Ctx g k u → CmH (B.getD k noB) u := fun {k u} h => by
    induction h with
    | start ht =>
      obtain ⟨b, h1, h2, h3⟩ := hB.2 ht
      rw [List.getD_eq_getElem?_getD, h1]
      exact ⟨h2, fun _ => h3, fun c u' e => by cases e⟩
    | @step x i s u v hx hr hsy hi hk hc hv ih =>
      have hxl := live_mem hs hL hx hr hsy
      have hQ := hq x hxl ih.1 i s hi hk
      have hh := here_complete hF hM ih (x.right.drop (i + 1)) v (fun s h => hm.kind x hx s (List.mem_of_mem_drop h)) (fun s h => hm.sym x hx s (List.mem_of_mem_drop h)) hv
      have q1 : ((B.getD s.sort.toNat noB).there || (hereL F M (B.getD x.left.toNat noB) (x.right.drop (i + 1))).there) = (B.getD s.sort.toNat noB).there := congrArg BackM.there hQ
      have q2 : (B.getD s.sort.toNat noB).bytes ||| (hereL F M (B.getD x.left.toNat noB) (x.right.drop (i + 1))).bytes = (B.getD s.sort.toNat noB).bytes := congrArg BackM.bytes hQ
      have q3 : ((B.getD s.sort.toNat noB).fin || (hereL F M (B.getD x.left.toNat noB) (x.right.drop (i + 1))).fin) = (B.getD s.sort.toNat noB).fin := congrArg BackM.fin hQ
      refine ⟨?_, fun e => ?_, fun c u' e => sub_bit q2 (hh.2.2 c u' e)⟩
      · rw [← q1, hh.1, Bool.or_true]
      · rw [← q3, hh.2.1 e, Bool.or_true]
  refine ⟨hlen, fun k b hk => ?_⟩
  have hS := hB.1 k b hk
  have hg : B.getD k noB = b := by rw [List.getD_eq_getElem?_getD, hk]; rfl
  refine ⟨⟨hS.1, fun ⟨u, hu⟩ => ?_⟩, fun c => ⟨hS.2.1 c, fun ⟨u, hu⟩ => ?_⟩, ⟨hS.2.2, fun hu => ?_⟩⟩
  · have := (key hu).1; rwa [hg] at this
  · have := (key hu).2.2 c u rfl; rwa [hg] at this
  · have := (key hu).2.1 rfl; rwa [hg] at this
end Go.Proofs.YtodnlcbnbkkanaaGreatDoor
end
section
namespace Go.Proofs.YtodnlcbnbkkanaaGreatDoor
open Go Go.RowKit

structure KJ (g : GramM) (w0 : World) (N Bh Bx Bb Bf Be n : Nat) (a : Option Addr) (c : Nat) (M L : List Bool) (F : List BS) (B : List BackM) (W : World) : Prop where
  bh : Blk W Bh 120 #[.slice (some ⟨Bb, 0, none⟩) n n]
  bx : Blk W Bx 118 #[.slice (some ⟨Bf, 0, none⟩) n n, .slice (some ⟨Be, 0, none⟩) n n]
  bb : Blk W Bb 123 (backsC B)
  bf : Blk W Bf 47 (setsC F)
  be : Blk W Be 4 (bools M)
  len : B.length = n
  snd : SoundB g B
  low : Below w0.heap.size w0 W
  own : OwnP N W a c (livL g L)
  hx : w0.heap.size ≤ Bb ∧ Bb < N
section
variable {g : GramM} {w0 : World} {N Bh Bx Bb Bf Be n : Nat} {a : Option Addr} {c : Nat} {M L : List Bool} {F : List BS} {B : List BackM} {W : World}
theorem KJ.below {V : World} (h : KJ g w0 N Bh Bx Bb Bf Be n a c M L F B W) (hB : Below W.heap.size W V) : KJ g w0 N Bh Bx Bb Bf Be n a c M L F B V :=
  ⟨h.bh.below hB h.bh.lt, h.bx.below hB h.bx.lt, h.bb.below hB h.bb.lt, h.bf.below hB h.bf.lt, h.be.below hB h.be.lt, h.len, h.snd, h.low.trans (hB.mono h.low.size), h.own.below hB (Nat.le_refl _), h.hx⟩
theorem KJ.prods (h : KJ g w0 N Bh Bx Bb Bf Be n a c M L F B W) (hg : GIn w0 g) : RowProd W a (livL g L) := h.own.rowProd fun x hx => (RowOf.mem hg.prods (livL_mem.1 hx).1).below h.low
end
theorem backs_steps {g : GramM} (hm : MayB g) (hs : MaySet g) {w0 : World} (hg : GIn w0 g) {M L : List Bool} (hM : NullP g M) (hL : Live g L) {F : List BS} (hF : FirstP g F) {N Bh Bx Bb Bf Be : Nat} {a : Option Addr} {c : Nat} :
    StepsBy 106 #[.pointer (some ⟨Bh, 0, none⟩), .pointer (some ⟨Bx, 0, none⟩)] (livL g L) (KJ g w0 N Bh Bx Bb Bf Be g.sorts.length a c M L F) (QuietB F M) sizeB := by
  intro B W x hx hI
  have hxg := (livL_mem.1 hx).1
  obtain ⟨k, hk, hkn⟩ := hm.left x hxg
  obtain ⟨b0, hb0⟩ : ∃ b0, B[k]? = some b0 := ⟨_, List.getElem?_eq_getElem (by rw [hI.len]; exact hkn)⟩
  have hget : B.getD k noB = b0 := by rw [List.getD_eq_getElem?_getD, hb0]; rfl
  refine (f106_any x F M B Bh Bx Bb Bf Be g.sorts.length k (SoundB g) w0 W hI.low hI.hx.1 hI.bh hI.bx hI.bb hI.bf hI.be hI.len hF.1 hM.1 hm.sorts2 (RowOf.mem hg.prods hxg) (hm.right x hxg) (hm.kind x hxg) (hm.sym x hxg) hk hkn hI.snd (fun B' i s hS hl hi hsk hth => by
    rw [hget] at hth ⊢
    exact SoundB.step hm hs hM hL (fun k s hks b => (hF.2 k s hks b).1) hS hx (by rw [hk, Int.toNat_natCast]; exact hI.snd.1 k b0 hb0) hth hi hsk)).mono ?_
  rintro e w' ⟨B', b, rfl, hg', hb', hl', hS', hst⟩
  refine ⟨b, B', rfl, ⟨hI.bh.kept hg' (by simpa using blk_ne hI.bh hI.bb (by decide)), hI.bx.kept hg' (by simpa using blk_ne hI.bx hI.bb (by decide)), hb', hI.bf.kept hg' (by simpa using blk_ne hI.bf hI.bb (by decide)), hI.be.kept hg' (by simpa using blk_ne hI.be hI.bb (by decide)), hl', hS', hI.low.grown hg' hI.low.size (fun k e => by cases e; exact hI.hx.1), hI.own.kept hg' hI.hx.2, hI.hx⟩, fun h => ?_, fun h => ?_⟩
  · rcases hst with ⟨_, h2, h3⟩ | ⟨h1, _⟩
    · exact ⟨h2, h3⟩
    · rw [h] at h1; cases h1
  · rcases hst with ⟨h1, _⟩ | ⟨_, h2⟩
    · rw [h] at h1; cases h1
    · exact h2
theorem info123 : (Tryz.prog.info? 123).map (fun i => (i.zero, i.size, i.bytes)) = some (some (.agg #[.bool false, .int .u64 0, .int .u64 0, .int .u64 0, .int .u64 0, .bool false]), 6, 48) := by kernel_rfl
theorem make_backs (n : Nat) (hn : n ≤ 1000) (w : World) : (Instr.makeSlice 120 (.int .i64 (n : Int)) (.int .i64 (n : Int))).run Tryz.prog w = .ok (.slice (some ⟨w.heap.size, 0, none⟩) n n) (w.alloc (.cells (backsC (List.replicate n noB)) 123)) := by
  obtain ⟨i0, hi, hz0, hz1, hz2⟩ := info_parts info123
  have e : backsC (List.replicate n noB) = madeCells #[.bool false, .int .u64 0, .int .u64 0, .int .u64 0, .int .u64 0, .bool false] (n * 6) := by
    apply Array.ext_getElem?
    intro i
    by_cases h : i < n * 6
    · have h1 := back_cell (backsC_at (L := List.replicate n noB) (k := i / 6) (b := noB) (by rw [List.getElem?_replicate, if_pos (by omega)])) (j := i % 6) (by omega)
      rw [show i / 6 * 6 + i % 6 = i by omega] at h1
      rw [h1]
      unfold madeCells
      rw [Array.getElem?_map, Array.getElem?_range, if_pos h, Option.map_some]
      have : i % 6 = 0 ∨ i % 6 = 1 ∨ i % 6 = 2 ∨ i % 6 = 3 ∨ i % 6 = 4 ∨ i % 6 = 5 := by omega
      have e2 : (#[Value.bool false, .int .u64 0, .int .u64 0, .int .u64 0, .int .u64 0, .bool false] : Array Value).size = 6 := rfl
      rw [e2]
      unfold backC noB
      dsimp only
      rw [wdI_zero, wdI_zero, wdI_zero, wdI_zero]
      rcases this with h | h | h | h | h | h <;> rw [h] <;> rfl
    · rw [Array.getElem?_eq_none (by rw [backsC_size]; simp; omega), Array.getElem?_eq_none (by rw [size_madeCells]; omega)]
  have hb' : (i0.bytes : Int) * (n : Int) ≤ 281474976710656 := by rw [hz2]; omega
  have hr := run_make (P := Tryz.prog) w 120 123 i0 (.agg #[.bool false, .int .u64 0, .int .u64 0, .int .u64 0, .int .u64 0, .bool false]) Tryz.underlying120 hi hz0 .i64 .i64 n n (by omega) (Int.le_refl _) hb' (by omega)
  simp only [Int.toNat_natCast, hz1] at hr
  rw [e]
  exact hr
end Go.Proofs.YtodnlcbnbkkanaaGreatDoor
end
section
namespace Go.Proofs.YtodnlcbnbkkanaaGreatDoor
open Go Go.RowKit

theorem wpAny_inv {P : Program} {md : Region.Mode} {ops : Array Oper} {Q : Exit → Act → World → Prop} (Inv : Array Bool → Act → World → Prop)
    (hstep : ∀ L a w, Inv L a w → ∀ i ∈ Region.ready md ops L, wpOp P ops Q i (Inv (L.setIfInBounds i true)) a w) (hend : ∀ L a w, Inv L a w → Region.ready md ops L = [] → Q .normal a w) :
    ∀ (fuel : Nat) (L : Array Bool) (a : Act) (w : World), (List.range ops.size).countP (fun x => !(L.getD x true)) ≤ fuel → Inv L a w → wpAny P md ops Q fuel L a w := by
  intro fuel
  induction fuel with
  | zero =>
    intro L a w hc hI
    have hr : Region.ready md ops L = [] := by
      apply List.eq_nil_iff_forall_not_mem.2
      intro j hj
      obtain ⟨h1, oj, hoj, _⟩ := mem_ready.1 hj
      have hjl := (Array.getElem?_eq_some_iff.1 hoj).1
      have := (List.countP_pos_iff (p := fun x => !(L.getD x true))).2 ⟨j, List.mem_range.2 hjl, (by rw [h1]; rfl : (!(L.getD j true)) = true)⟩
      omega
    exact ⟨hr, hend L a w hI hr⟩
  | succ fuel ih =>
    intro L a w hc hI
    refine ⟨fun hr => hend L a w hI hr, fun i hi => ?_⟩
    obtain ⟨h1, oi, hoi, _⟩ := mem_ready.1 hi
    have hil := (Array.getElem?_eq_some_iff.1 hoi).1
    refine wpOp_mono (fun a' w' h => ih _ a' w' ?_ h) (hstep L a w hI i hi)
    have hLs : i < L.size := by
      rcases Nat.lt_or_ge i L.size with h | h
      · exact h
      · simp [Array.getElem?_eq_none h] at h1
    have hless := countP_less (p := fun x => !(L.getD x true)) (q := fun x => !((L.setIfInBounds i true).getD x true)) (c := i) (List.mem_range.2 hil) (by rw [h1]; rfl) (by simp [hLs]) (fun y hy => by
      by_cases e : i = y
      · subst e; simp [hLs] at hy
      · rw [getD_set_ne true e] at hy; exact hy)
    omega
theorem wpOp_go {i : Nat} {P : Program} {ops : Array Oper} {Q : Exit → Act → World → Prop} {K : Act → World → Prop} {a : Act} {w : World} {o : Oper} (ho : ops[i]? = some o) (hg : o.guard = none) (h : o.upon P a K Q ((execOp a.eval o).run P w)) : wpOp P ops Q i K a w := by
  unfold wpOp
  rw [ho]
  have hw : Region.wanted o (yielded ops a.tmps) = true := by unfold Region.wanted; rw [hg]
  simp only [hw, if_true]
  exact .inl h
theorem upon_of {P : Program} {o : Oper} {a : Act} {K : Act → World → Prop} {Q : Exit → Act → World → Prop} {x y : Result Next} (h : x = y) (hh : o.upon P a K Q y) : o.upon P a K Q x := by rw [h]; exact hh
theorem all_done {ops : Array Oper} {L : Array Bool} {n : Nat} (hn : ops.size = n) (hs : L.size = n) (hon : ∀ (i : Nat) (o : Oper), ops[i]? = some o → ∀ e ∈ o.after, e.on < i) (hr : Region.ready .any ops L = []) : ∀ i, i < n → L.getD i false = true := by
  have key : ∀ m i, i < m → i < n → L.getD i false = true := fun m => by
    induction m with
    | zero => intro i hi; omega
    | succ m ih =>
      intro i hi h8
      cases e : L.getD i false with
      | true => rfl
      | false =>
        exfalso
        have h8' : i < ops.size := by omega
        have hm : i ∈ Region.ready .any ops L := mem_ready.2 ⟨getD_in (by rw [hs]; exact h8) e, ops[i]'h8', Array.getElem?_eq_getElem _, fun e' he' _ => by
          have := hon i _ (Array.getElem?_eq_getElem h8') e' he'
          exact ih e'.on (by omega) (by omega)⟩
        rw [hr] at hm
        cases hm
  exact fun i hi => key (i + 1) i (by omega) hi
theorem on_less {l : List Oper} (h : l.zipIdx.all (fun p => p.1.after.toList.all fun e => decide (e.on < p.2)) = true) (i : Nat) (o : Oper) (ho : l.toArray[i]? = some o) (e : Go.Edge) (he : e ∈ o.after) : e.on < i := by
  rw [List.all_eq_true] at h
  have hm : (o, i) ∈ l.zipIdx := List.mk_mem_zipIdx_iff_getElem?.2 (by simpa using ho)
  have := h _ hm
  rw [List.all_eq_true] at this
  simpa using this e (by simpa using he)

def opsB1 : List Oper := [{ dst := some 5, op := Op.load 27 (Operand.tmp 1), type := 27, pos := "sides.go:83", after := #[], guard := none }, { dst := some 6, op := Op.call { callee := Callee.value (Operand.func 78), args := #[Operand.tmp 5], argTypes := #[27] }, type := 118, pos := "sides.go:83", after := #[{ on := 0, ground := Ground.data }], guard := none }, { dst := some 7, op := Op.fieldAddr 27 (Operand.tmp 1) 0, type := 0, pos := "sides.go:83", after := #[], guard := none }, { dst := some 8, op := Op.load 22 (Operand.tmp 7), type := 22, pos := "sides.go:83", after := #[{ on := 2, ground := Ground.data }], guard := none }, { dst := some 9, op := Op.call { callee := Callee.builtin Builtin.len, args := #[Operand.tmp 8], argTypes := #[22] }, type := 3, pos := "sides.go:83", after := #[{ on := 3, ground := Ground.data }], guard := none }, { dst := some 10, op := Op.makeSlice 120 (Operand.tmp 9) (Operand.tmp 9), type := 120, pos := "sides.go:83", after := #[{ on := 4, ground := Ground.data }, { on := 4, ground := Ground.data }], guard := none }, { dst := some 3, op := Op.alloc 118, type := 0, pos := "sides.go:83", after := #[], guard := none }, { dst := some 4, op := Op.alloc 120, type := 0, pos := "sides.go:83", after := #[], guard := none }, { dst := none, op := Op.store 118 (Operand.tmp 3) (Operand.tmp 6), type := 0, pos := "sides.go:83", after := #[{ on := 6, ground := Ground.data }, { on := 1, ground := Ground.data }, { on := 1, ground := Ground.chain }, { on := 0, ground := Ground.phase }, { on := 1, ground := Ground.phase }, { on := 2, ground := Ground.textOnly Departure.lateStores }, { on := 3, ground := Ground.textOnly Departure.lateStores }, { on := 4, ground := Ground.textOnly Departure.lateStoresUnsure }, { on := 5, ground := Ground.textOnly Departure.lateStoresUnsure }, { on := 6, ground := Ground.phase }, { on := 7, ground := Ground.phase }], guard := none }, { dst := none, op := Op.store 120 (Operand.tmp 4) (Operand.tmp 10), type := 0, pos := "sides.go:83", after := #[{ on := 7, ground := Ground.data }, { on := 5, ground := Ground.data }, { on := 8, ground := Ground.chain }, { on := 0, ground := Ground.phase }, { on := 1, ground := Ground.phase }, { on := 2, ground := Ground.phase }, { on := 3, ground := Ground.phase }, { on := 4, ground := Ground.phase }, { on := 5, ground := Ground.phase }, { on := 6, ground := Ground.phase }, { on := 7, ground := Ground.phase }, { on := 8, ground := Ground.phase }], guard := none }]
def opsB2 : List Oper := [{ dst := some 11, op := Op.load 27 (Operand.tmp 1), type := 27, pos := "sides.go:84", after := #[], guard := none }, { dst := some 12, op := Op.call { callee := Callee.value (Operand.func 46), args := #[Operand.tmp 11], argTypes := #[27] }, type := 31, pos := "sides.go:84", after := #[{ on := 0, ground := Ground.data }], guard := none }, { dst := some 13, op := Op.fieldAddr 27 (Operand.tmp 1) 2, type := 0, pos := "sides.go:84", after := #[], guard := none }, { dst := some 14, op := Op.load 3 (Operand.tmp 13), type := 3, pos := "sides.go:84", after := #[{ on := 2, ground := Ground.data }], guard := none }, { dst := some 15, op := Op.indexAddr 31 (Operand.tmp 12) (Operand.tmp 14), type := 0, pos := "sides.go:84", after := #[{ on := 1, ground := Ground.data }, { on := 3, ground := Ground.data }], guard := none }, { dst := some 16, op := Op.load 4 (Operand.tmp 15), type := 4, pos := "sides.go:84", after := #[{ on := 4, ground := Ground.data }], guard := none }]
end Go.Proofs.YtodnlcbnbkkanaaGreatDoor
end
section
namespace Go.Proofs.YtodnlcbnbkkanaaGreatDoor
open Go Go.RowKit

section
variable {w : World} {o : Oper} {ρ : Operand → Value}
theorem al118 (ho : o.op = .alloc 118) : (execOp ρ o).run Tryz.prog w = .ok (.value (.pointer (some ⟨w.heap.size, 0, none⟩))) (w.alloc (.cells #[.slice none 0 0, .slice none 0 0] 118)) := by
  unfold execOp; rw [ho]
  go_simp
theorem al120 (ho : o.op = .alloc 120) : (execOp ρ o).run Tryz.prog w = .ok (.value (.pointer (some ⟨w.heap.size, 0, none⟩))) (w.alloc (.cells #[.slice none 0 0] 120)) := by
  unfold execOp; rw [ho]
  go_simp
theorem mk120 {x : Operand} {n : Nat} (hn : n ≤ 1000) (ho : o.op = .makeSlice 120 x x) (hx : ρ x = .int .i64 (n : Int)) : (execOp ρ o).run Tryz.prog w = .ok (.value (.slice (some ⟨w.heap.size, 0, none⟩) n n)) (w.alloc (.cells (backsC (List.replicate n noB)) 123)) := by
  have h := make_backs n hn w
  unfold execOp; rw [ho]; simp only [hx]
  simp only [Sem.run_bind, h, Result.andThen_ok]
  rfl
theorem fa27 {x : Operand} {p : Nat} (ho : o.op = .fieldAddr 27 x 0) (hx : ρ x = .pointer (some ⟨p, 0, none⟩)) : (execOp ρ o).run Tryz.prog w = .ok (.value (.pointer (some ⟨p, 0, none⟩))) w := by
  unfold execOp; rw [ho]; simp only [hx]
  go_simp
theorem call78 {x : Operand} {ts : Array TypeId} {u : Value} (ho : o.op = .call { callee := .value (.func 78), args := #[x], argTypes := ts }) (hx : ρ x = u) (hf : ρ (.func 78) = .func (.func 78) #[] #[]) : (execOp ρ o).run Tryz.prog w = .ok (.enter 78 #[u]) w := by
  have e := enters_of Tryz.func78 (by kernel_rfl) rfl
  unfold execOp; rw [ho]
  simp [go_sem, resolve, invoke, hx, hf, e]
theorem st118 {x y : Operand} {p : Nat} {a b : Option Addr} {n m k l : Nat} (ho : o.op = .store 118 x y) (hx : ρ x = .pointer (some ⟨p, 0, none⟩)) (hy : ρ y = .agg #[.slice a n k, .slice b m l]) (hc : Blk w p 118 #[.slice none 0 0, .slice none 0 0]) : (execOp ρ o).run Tryz.prog w = .ok .skip ((w.setCell ⟨p, 0, none⟩ (.slice a n k)).setCell ⟨p, 1, none⟩ (.slice b m l)) := by
  have c0 := hc.cell 0
  have c1 := hc.cell 1
  simp only [List.getElem?_toArray, List.getElem?_cons_zero, List.getElem?_cons_succ] at c0 c1
  have f0 := hc.frozen 0
  have f1 := hc.frozen 1
  have hl := hc.lt
  unfold execOp; rw [ho]; simp only [hx, hy]
  go_simp
theorem st120 {x y : Operand} {p : Nat} {a : Option Addr} {n k : Nat} (ho : o.op = .store 120 x y) (hx : ρ x = .pointer (some ⟨p, 0, none⟩)) (hy : ρ y = .slice a n k) (hc : Blk w p 120 #[.slice none 0 0]) : (execOp ρ o).run Tryz.prog w = .ok .skip (w.setCell ⟨p, 0, none⟩ (.slice a n k)) := by
  have c0 := hc.cell 0
  simp only [List.getElem?_toArray, List.getElem?_cons_zero] at c0
  have f0 := hc.frozen 0
  have hl := hc.lt
  unfold execOp; rw [ho]; simp only [hx, hy]
  go_simp
end
def actB (g : GramM) (w : World) (X : Nat → Value) : Act := ⟨#[.agg (gramC g), .pointer (some ⟨w.heap.size, 0, none⟩), .slice none 0 0, X 3, X 4, X 5, X 6, X 7, X 8, X 9, X 10, undef, undef, undef, undef, undef, undef, undef, undef, undef, undef, undef, undef, undef, undef, undef, undef], []⟩
def updX (X : Nat → Value) (d : Nat) (v : Value) : Nat → Value := fun j => if j = d then v else X j
def BegV (g : GramM) (N : Nat) (v : Value) (V : World) : Prop := ∃ (F : List BS) (M : List Bool) (Bf Be : Nat), FirstP g F ∧ NullP g M ∧ v = .agg #[.slice (some ⟨Bf, 0, none⟩) g.sorts.length g.sorts.length, .slice (some ⟨Be, 0, none⟩) g.sorts.length g.sorts.length] ∧ N ≤ Bf ∧ N ≤ Be ∧ Blk V Bf 47 (setsC F) ∧ Blk V Be 4 (bools M)
theorem BegV.below {g : GramM} {N : Nat} {v : Value} {V V' : World} (h : BegV g N v V) (hB : Below V.heap.size V V') : BegV g N v V' := by
  obtain ⟨F, M, Bf, Be, h1, h2, h3, h4, h5, h6, h7⟩ := h
  exact ⟨F, M, Bf, Be, h1, h2, h3, h4, h5, h6.below hB h6.lt, h7.below hB h7.lt⟩
def SlB (n N : Nat) (v : Value) (V : World) : Prop := ∃ B, v = .slice (some ⟨B, 0, none⟩) n n ∧ N ≤ B ∧ Blk V B 123 (backsC (List.replicate n noB))
theorem SlB.below {n N : Nat} {v : Value} {V V' : World} (h : SlB n N v V) (hB : Below V.heap.size V V') : SlB n N v V' := by
  obtain ⟨B, h1, h2, h3⟩ := h
  exact ⟨B, h1, h2, h3.below hB h3.lt⟩
def P118 (N : Nat) (v : Value) (V : World) : Prop := ∃ B, v = .pointer (some ⟨B, 0, none⟩) ∧ N ≤ B ∧ Blk V B 118 #[.slice none 0 0, .slice none 0 0]
def P120 (N : Nat) (v : Value) (V : World) : Prop := ∃ B, v = .pointer (some ⟨B, 0, none⟩) ∧ N ≤ B ∧ Blk V B 120 #[.slice none 0 0]
def Q118 (g : GramM) (N : Nat) (v : Value) (V : World) : Prop := ∃ B c d, v = .pointer (some ⟨B, 0, none⟩) ∧ N ≤ B ∧ Blk V B 118 #[c, d] ∧ BegV g N (.agg #[c, d]) V
def Q120 (n N : Nat) (v : Value) (V : World) : Prop := ∃ B c, v = .pointer (some ⟨B, 0, none⟩) ∧ N ≤ B ∧ Blk V B 120 #[c] ∧ SlB n N c V
theorem P118.below {N : Nat} {v : Value} {V V' : World} (h : P118 N v V) (hB : Below V.heap.size V V') : P118 N v V' := by
  obtain ⟨B, h1, h2, h3⟩ := h
  exact ⟨B, h1, h2, h3.below hB h3.lt⟩
theorem P120.below {N : Nat} {v : Value} {V V' : World} (h : P120 N v V) (hB : Below V.heap.size V V') : P120 N v V' := by
  obtain ⟨B, h1, h2, h3⟩ := h
  exact ⟨B, h1, h2, h3.below hB h3.lt⟩
theorem Q118.below {g : GramM} {N : Nat} {v : Value} {V V' : World} (h : Q118 g N v V) (hB : Below V.heap.size V V') : Q118 g N v V' := by
  obtain ⟨B, c, d, h1, h2, h3, h4⟩ := h
  exact ⟨B, c, d, h1, h2, h3.below hB h3.lt, h4.below hB⟩
theorem Q120.below {n N : Nat} {v : Value} {V V' : World} (h : Q120 n N v V) (hB : Below V.heap.size V V') : Q120 n N v V' := by
  obtain ⟨B, c, h1, h2, h3, h4⟩ := h
  exact ⟨B, c, h1, h2, h3.below hB h3.lt, h4.below hB⟩
structure I1 (g : GramM) (w W : World) (L : Array Bool) (a : Act) (V : World) : Prop where
  sz : L.size = 10
  low : Below W.heap.size W V
  ex : ∃ X : Nat → Value, a = actB g w X ∧ (L.getD 0 false = true → X 5 = .agg (gramC g)) ∧ (L.getD 1 false = true → BegV g W.heap.size (X 6) V) ∧ (L.getD 2 false = true → X 7 = .pointer (some ⟨w.heap.size, 0, none⟩)) ∧ (L.getD 3 false = true → X 8 = .slice g.sa g.sorts.length g.sc) ∧ (L.getD 4 false = true → X 9 = .int .i64 (g.sorts.length : Int)) ∧ (L.getD 5 false = true → SlB g.sorts.length W.heap.size (X 10) V) ∧ (L.getD 6 false = true → L.getD 8 false = false → P118 W.heap.size (X 3) V) ∧ (L.getD 7 false = true → L.getD 9 false = false → P120 W.heap.size (X 4) V) ∧ (L.getD 8 false = true → Q118 g W.heap.size (X 3) V) ∧ (L.getD 9 false = true → Q120 g.sorts.length W.heap.size (X 4) V)
  cl8 : L.getD 8 false = true → L.getD 6 false = true
  cl9 : L.getD 9 false = true → L.getD 7 false = true
theorem getD_set_self {L : Array Bool} {i : Nat} (h : i < L.size) : (L.setIfInBounds i true).getD i false = true := by simp [h]
theorem I1.put {g : GramM} {w W : World} {L : Array Bool} {a : Act} {V V' : World} (hI : I1 g w W L a V) {i d : Nat} (hi : i < 8) (hL : L.getD i false = false) {v : Value} (hB : Below V.heap.size V V') (hd : ∃ k, (i, d) = k ∧ (k = (0, 5) ∨ k = (1, 6) ∨ k = (2, 7) ∨ k = (3, 8) ∨ k = (4, 9) ∨ k = (5, 10) ∨ k = (6, 3) ∨ k = (7, 4)))
    (hv : (i = 0 → v = .agg (gramC g)) ∧ (i = 1 → BegV g W.heap.size v V') ∧ (i = 2 → v = .pointer (some ⟨w.heap.size, 0, none⟩)) ∧ (i = 3 → v = .slice g.sa g.sorts.length g.sc) ∧ (i = 4 → v = .int .i64 (g.sorts.length : Int)) ∧ (i = 5 → SlB g.sorts.length W.heap.size v V') ∧ (i = 6 → P118 W.heap.size v V') ∧ (i = 7 → P120 W.heap.size v V')) : I1 g w W (L.setIfInBounds i true) (a.put (some d) v) V' := by
  obtain ⟨X, rfl, x0, x1, x2, x3, x4, x5, x6, x7, x8, x9⟩ := hI.ex
  have hs := hI.sz
  have n8 : (L.setIfInBounds i true).getD 8 false = L.getD 8 false := getD_set_ne false (by omega)
  have n9 : (L.setIfInBounds i true).getD 9 false = L.getD 9 false := getD_set_ne false (by omega)
  have k8 : i = 6 → L.getD 8 false = false := fun e => by
    cases h : L.getD 8 false with
    | false => rfl
    | true => subst e; rw [hI.cl8 h] at hL; cases hL
  have k9 : i = 7 → L.getD 9 false = false := fun e => by
    cases h : L.getD 9 false with
    | false => rfl
    | true => subst e; rw [hI.cl9 h] at hL; cases hL
  have up : ∀ {j : Nat}, (L.setIfInBounds i true).getD j false = true → i ≠ j → L.getD j false = true := fun {j} h e => by rwa [getD_set_ne false e] at h
  obtain ⟨k, rfl, hd⟩ := hd
  obtain ⟨v0, v1, v2, v3, v4, v5, v6, v7⟩ := hv
  refine ⟨by rw [Array.size_setIfInBounds]; exact hs, hI.low.trans (hB.mono hI.low.size), ⟨updX X d v, ?_, ?_, ?_, ?_, ?_, ?_, ?_, ?_, ?_, ?_, ?_⟩, fun h => ?_, fun h => ?_⟩
  · simp only [Prod.mk.injEq] at hd
    rcases hd with ⟨_, rfl⟩ | ⟨_, rfl⟩ | ⟨_, rfl⟩ | ⟨_, rfl⟩ | ⟨_, rfl⟩ | ⟨_, rfl⟩ | ⟨_, rfl⟩ | ⟨_, rfl⟩ <;> rfl
  all_goals simp only [Prod.mk.injEq] at hd
  all_goals try unfold updX
  · intro h
    by_cases e : i = 0
    · rw [if_pos (by omega)]; exact v0 e
    · rw [if_neg (by omega)]; exact x0 (up h e)
  · intro h
    by_cases e : i = 1
    · rw [if_pos (by omega)]; exact v1 e
    · rw [if_neg (by omega)]; exact (x1 (up h e)).below hB
  · intro h
    by_cases e : i = 2
    · rw [if_pos (by omega)]; exact v2 e
    · rw [if_neg (by omega)]; exact x2 (up h e)
  · intro h
    by_cases e : i = 3
    · rw [if_pos (by omega)]; exact v3 e
    · rw [if_neg (by omega)]; exact x3 (up h e)
  · intro h
    by_cases e : i = 4
    · rw [if_pos (by omega)]; exact v4 e
    · rw [if_neg (by omega)]; exact x4 (up h e)
  · intro h
    by_cases e : i = 5
    · rw [if_pos (by omega)]; exact v5 e
    · rw [if_neg (by omega)]; exact (x5 (up h e)).below hB
  · intro h h8
    by_cases e : i = 6
    · rw [if_pos (by omega)]; exact v6 e
    · rw [if_neg (by omega)]; exact (x6 (up h e) (by rw [← n8]; exact h8)).below hB
  · intro h h9
    by_cases e : i = 7
    · rw [if_pos (by omega)]; exact v7 e
    · rw [if_neg (by omega)]; exact (x7 (up h e) (by rw [← n9]; exact h9)).below hB
  · intro h
    rw [n8] at h
    have : i ≠ 6 := fun e => by rw [k8 e] at h; cases h
    rw [if_neg (by omega)]; exact (x8 h).below hB
  · intro h
    rw [n9] at h
    have : i ≠ 7 := fun e => by rw [k9 e] at h; cases h
    rw [if_neg (by omega)]; exact (x9 h).below hB
  · rw [n8] at h
    by_cases e : i = 6
    · rw [k8 e] at h; cases h
    · rw [getD_set_ne false e]; exact hI.cl8 h
  · rw [n9] at h
    by_cases e : i = 7
    · rw [k9 e] at h; cases h
    · rw [getD_set_ne false e]; exact hI.cl9 h

theorem opsB1_on (i : Nat) (o : Oper) (ho : opsB1.toArray[i]? = some o) (e : Go.Edge) (he : e ∈ o.after) : e.on < i := on_less (by kernel_rfl) i o ho e he

set_option maxRecDepth 100000 in
theorem r1_any {Q : Exit → Act → World → Prop} (g : GramM) (hm : MayB g) (hs : MaySet g) (hf : Fit g) (w W : World) (hg : GIn w g) (hlow : Below w.heap.size w W) (hb : Blk W w.heap.size 27 (gramC g))
    (hQ : ∀ X V, Below W.heap.size W V → Q118 g W.heap.size (X 3) V → Q120 g.sorts.length W.heap.size (X 4) V → Q .normal (actB g w X) V) : (Code.region 1 opsB1.toArray true).wp Tryz.prog Q (actB g w fun _ => undef) W := by
  refine wp_region_any (by kernel_rfl) ?_
  refine wpAny_inv (I1 g w W) ?_ ?_ _ _ _ _ ?_ ?_
  · intro L a V hI i hi
    obtain ⟨hun, o, ho, hall⟩ := mem_ready.1 hi
    have hi8 : i < 10 := (Array.getElem?_eq_some_iff.1 ho).1
    have hun' := getD_both hun
    have hbV := hb.below hI.low hb.lt
    have hW := hI.low.size
    obtain ⟨X, rfl, x0, x1, x2, x3, x4, x5, x6, x7, x8, x9⟩ := hI.ex
    have : i = 0 ∨ i = 1 ∨ i = 2 ∨ i = 3 ∨ i = 4 ∨ i = 5 ∨ i = 6 ∨ i = 7 ∨ i = 8 ∨ i = 9 := by omega
    rcases this with rfl | rfl | rfl | rfl | rfl | rfl | rfl | rfl | rfl | rfl <;> cases ho <;> refine wpOp_go rfl rfl ?_
    · refine upon_of (ld27 (v := g) rfl rfl (fun j v hj => by rw [Nat.zero_add, hbV.cell j]; exact hj)) ?_
      exact hI.put (by decide) hun' (Below.refl _ _) ⟨_, rfl, by simp⟩ ⟨fun _ => rfl, by simp, by simp, by simp, by simp, by simp, by simp, by simp⟩
    · have v0 := x0 (hall ⟨0, .data⟩ (by simp [opsB1]) rfl)
      refine upon_of (call78 (u := .agg (gramC g)) rfl v0 rfl) ?_
      refine (beginsOf_any g hm hs hf V (hg.below (hlow.trans (hI.low.mono hlow.size)))).mono ?_
      rintro e w'' ⟨F, M, Bb, Be, h1, h2, rfl, h3, h4, h5, h6, h7⟩
      exact hI.put (by decide) hun' h7 ⟨_, rfl, by simp⟩ ⟨by simp, fun _ => ⟨F, M, Bb, Be, h1, h2, rfl, by omega, by omega, h5, h6⟩, by simp, by simp, by simp, by simp, by simp, by simp⟩
    · refine upon_of (fa27 (p := w.heap.size) rfl rfl) ?_
      exact hI.put (by decide) hun' (Below.refl _ _) ⟨_, rfl, by simp⟩ ⟨by simp, by simp, fun _ => rfl, by simp, by simp, by simp, by simp, by simp⟩
    · have v2 := x2 (hall ⟨2, .data⟩ (by simp [opsB1]) rfl)
      refine upon_of (ld22 rfl v2 (hbV.cell 0)) ?_
      exact hI.put (by decide) hun' (Below.refl _ _) ⟨_, rfl, by simp⟩ ⟨by simp, by simp, by simp, fun _ => rfl, by simp, by simp, by simp, by simp⟩
    · have v3 := x3 (hall ⟨3, .data⟩ (by simp [opsB1]) rfl)
      refine upon_of (len22 rfl v3) ?_
      exact hI.put (by decide) hun' (Below.refl _ _) ⟨_, rfl, by simp⟩ ⟨by simp, by simp, by simp, by simp, fun _ => rfl, by simp, by simp, by simp⟩
    · have v4 := x4 (hall ⟨4, .data⟩ (by simp [opsB1]) rfl)
      refine upon_of (mk120 hm.sorts2 rfl v4) ?_
      exact hI.put (by decide) hun' ((Below.refl _ _).alloc (Nat.le_refl _) _) ⟨_, rfl, by simp⟩ ⟨by simp, by simp, by simp, by simp, by simp, fun _ => ⟨_, rfl, hW, Blk.new V 123 _⟩, by simp, by simp⟩
    · refine upon_of (al118 rfl) ?_
      exact hI.put (by decide) hun' ((Below.refl _ _).alloc (Nat.le_refl _) _) ⟨_, rfl, by simp⟩ ⟨by simp, by simp, by simp, by simp, by simp, by simp, fun _ => ⟨_, rfl, hW, Blk.new V 118 _⟩, by simp⟩
    · refine upon_of (al120 rfl) ?_
      exact hI.put (by decide) hun' ((Below.refl _ _).alloc (Nat.le_refl _) _) ⟨_, rfl, by simp⟩ ⟨by simp, by simp, by simp, by simp, by simp, by simp, by simp, fun _ => ⟨_, rfl, hW, Blk.new V 120 _⟩⟩
    · have l6 := hall ⟨6, .data⟩ (by simp [opsB1]) rfl
      have l1 := hall ⟨1, .data⟩ (by simp [opsB1]) rfl
      obtain ⟨B, hB1, hB2, hB3⟩ := x6 l6 hun'
      obtain ⟨F, M, Bf, Be, f1, f2, f3, f4, f5, f6, f7⟩ := x1 l1
      refine upon_of (st118 rfl hB1 f3 hB3) ?_
      have m1 : (actB g w X).put none undef = actB g w X := rfl
      have nf := blk_ne f6 hB3 (by decide)
      have ne := blk_ne f7 hB3 (by decide)
      have k1 := (hB3.set 0 (.slice (some ⟨Bf, 0, none⟩) g.sorts.length g.sorts.length)).set 1 (.slice (some ⟨Be, 0, none⟩) g.sorts.length g.sorts.length)
      have hsl : ∀ {C t : Nat} {cs : Array Value}, Blk V C t cs → t ≠ 118 → Blk ((V.setCell ⟨B, 0, none⟩ (.slice (some ⟨Bf, 0, none⟩) g.sorts.length g.sorts.length)).setCell ⟨B, 1, none⟩ (.slice (some ⟨Be, 0, none⟩) g.sorts.length g.sorts.length)) C t cs := fun h ht => (h.other (blk_ne h hB3 ht) _).other (blk_ne h hB3 ht) _
      have hbeg : BegV g W.heap.size (X 6) ((V.setCell ⟨B, 0, none⟩ (.slice (some ⟨Bf, 0, none⟩) g.sorts.length g.sorts.length)).setCell ⟨B, 1, none⟩ (.slice (some ⟨Be, 0, none⟩) g.sorts.length g.sorts.length)) := ⟨F, M, Bf, Be, f1, f2, f3, f4, f5, hsl f6 (by decide), hsl f7 (by decide)⟩
      have up : ∀ {j : Nat}, (L.setIfInBounds 8 true).getD j false = true → 8 ≠ j → L.getD j false = true := fun {j} h e => by rwa [getD_set_ne false e] at h
      have u8 := getD_set_self (L := L) (i := 8) (by rw [hI.sz]; decide)
      refine ⟨by rw [Array.size_setIfInBounds]; exact hI.sz, (hI.low.setCell (p := ⟨B, 0, none⟩) hB2 _).setCell (p := ⟨B, 1, none⟩) hB2 _, ⟨X, rfl, fun h => x0 (up h (by decide)), fun _ => hbeg, fun h => x2 (up h (by decide)), fun h => x3 (up h (by decide)), fun h => x4 (up h (by decide)), fun h => ?_, fun _ h => (by rw [u8] at h; cases h), fun h h9 => ?_, fun _ => ⟨B, _, _, hB1, hB2, k1, by rw [f3] at hbeg; exact hbeg⟩, fun h => ?_⟩, fun _ => (by rw [getD_set_ne false (by decide)]; exact l6), fun h => (by rw [getD_set_ne false (by decide)] at h ⊢; exact hI.cl9 h)⟩
      · obtain ⟨C, c1, c2, c3⟩ := x5 (up h (by decide))
        exact ⟨C, c1, c2, hsl c3 (by decide)⟩
      · obtain ⟨C, c1, c2, c3⟩ := x7 (up h (by decide)) (by rw [getD_set_ne false (by decide)] at h9; exact h9)
        exact ⟨C, c1, c2, hsl c3 (by decide)⟩
      · obtain ⟨C, c, c1, c2, c3, D, d1, d2, d3⟩ := x9 (up h (by decide))
        exact ⟨C, c, c1, c2, hsl c3 (by decide), D, d1, d2, hsl d3 (by decide)⟩
    · have l7 := hall ⟨7, .data⟩ (by simp [opsB1]) rfl
      have l5 := hall ⟨5, .data⟩ (by simp [opsB1]) rfl
      obtain ⟨B, hB1, hB2, hB3⟩ := x7 l7 hun'
      obtain ⟨D, d1, d2, d3⟩ := x5 l5
      refine upon_of (st120 rfl hB1 d1 hB3) ?_
      have k1 := hB3.set 0 (.slice (some ⟨D, 0, none⟩) g.sorts.length g.sorts.length)
      have hsl : ∀ {C t : Nat} {cs : Array Value}, Blk V C t cs → t ≠ 120 → Blk (V.setCell ⟨B, 0, none⟩ (.slice (some ⟨D, 0, none⟩) g.sorts.length g.sorts.length)) C t cs := fun h ht => h.other (blk_ne h hB3 ht) _
      have hbeg : ∀ {v : Value}, BegV g W.heap.size v V → BegV g W.heap.size v (V.setCell ⟨B, 0, none⟩ (.slice (some ⟨D, 0, none⟩) g.sorts.length g.sorts.length)) := fun ⟨F, M, Bf, Be, f1, f2, f3, f4, f5, f6, f7⟩ => ⟨F, M, Bf, Be, f1, f2, f3, f4, f5, hsl f6 (by decide), hsl f7 (by decide)⟩
      have up : ∀ {j : Nat}, (L.setIfInBounds 9 true).getD j false = true → 9 ≠ j → L.getD j false = true := fun {j} h e => by rwa [getD_set_ne false e] at h
      have u9 := getD_set_self (L := L) (i := 9) (by rw [hI.sz]; decide)
      refine ⟨by rw [Array.size_setIfInBounds]; exact hI.sz, hI.low.setCell (p := ⟨B, 0, none⟩) hB2 _, ⟨X, rfl, fun h => x0 (up h (by decide)), fun h => hbeg (x1 (up h (by decide))), fun h => x2 (up h (by decide)), fun h => x3 (up h (by decide)), fun h => x4 (up h (by decide)), fun _ => ⟨D, d1, d2, hsl d3 (by decide)⟩, fun h h8 => ?_, fun _ h => (by rw [u9] at h; cases h), fun h => ?_, fun _ => ⟨B, _, hB1, hB2, k1, D, rfl, d2, hsl d3 (by decide)⟩⟩, fun h => (by rw [getD_set_ne false (by decide)] at h ⊢; exact hI.cl8 h), fun _ => (by rw [getD_set_ne false (by decide)]; exact l7)⟩
      · obtain ⟨C, c1, c2, c3⟩ := x6 (up h (by decide)) (by rw [getD_set_ne false (by decide)] at h8; exact h8)
        exact ⟨C, c1, c2, hsl c3 (by decide)⟩
      · obtain ⟨C, c, d, c1, c2, c3, c4⟩ := x8 (up h (by decide))
        exact ⟨C, c, d, c1, c2, hsl c3 (by decide), hbeg c4⟩
  · intro L a V hI hr
    have hd := all_done (ops := opsB1.toArray) (n := 10) rfl hI.sz opsB1_on hr
    obtain ⟨X, rfl, x0, x1, x2, x3, x4, x5, x6, x7, x8, x9⟩ := hI.ex
    exact hQ X V hI.low (x8 (hd 8 (by decide))) (x9 (hd 9 (by decide)))
  · exact Nat.le_trans List.countP_le_length (by simp)
  · have z : ∀ j, (Array.replicate opsB1.toArray.size false).getD j false = true → False := fun j h => by rw [getD_replicate_false] at h; cases h
    exact ⟨rfl, (Below.refl _ _).drew, ⟨fun _ => undef, rfl, fun h => (z _ h).elim, fun h => (z _ h).elim, fun h => (z _ h).elim, fun h => (z _ h).elim, fun h => (z _ h).elim, fun h => (z _ h).elim, fun h => (z _ h).elim, fun h => (z _ h).elim, fun h => (z _ h).elim, fun h => (z _ h).elim⟩, fun h => (z _ h).elim, fun h => (z _ h).elim⟩
end Go.Proofs.YtodnlcbnbkkanaaGreatDoor
end
section
namespace Go.Proofs.YtodnlcbnbkkanaaGreatDoor
open Go Go.RowKit

section
variable {w : World} {o : Oper} {ρ : Operand → Value}
theorem call46 {x : Operand} {ts : Array TypeId} {u : Value} (ho : o.op = .call { callee := .value (.func 46), args := #[x], argTypes := ts }) (hx : ρ x = u) (hf : ρ (.func 46) = .func (.func 46) #[] #[]) : (execOp ρ o).run Tryz.prog w = .ok (.enter 46 #[u]) w := by
  have e := enters_of Tryz.func46 (by kernel_rfl) rfl
  unfold execOp; rw [ho]
  simp [go_sem, resolve, invoke, hx, hf, e]
end
def actC (g : GramM) (w : World) (X : Nat → Value) : Act := ⟨#[.agg (gramC g), .pointer (some ⟨w.heap.size, 0, none⟩), .slice none 0 0, X 3, X 4, X 5, X 6, X 7, X 8, X 9, X 10, X 11, X 12, X 13, X 14, X 15, X 16, undef, undef, undef, undef, undef, undef, undef, undef, undef, undef], []⟩
def LivV (g : GramM) (v : Value) (V : World) : Prop := ∃ (M : List Bool) (B : Nat), Live g M ∧ v = .slice (some ⟨B, 0, none⟩) g.sorts.length g.sorts.length ∧ Blk V B 4 (bools M)
def LivA (g : GramM) (v : Value) (V : World) : Prop := ∃ (M : List Bool) (B : Nat), Live g M ∧ v = .pointer (some ⟨B, g.start.toNat, none⟩) ∧ Blk V B 4 (bools M)
structure I2 (g : GramM) (w W : World) (u3 u4 : Value) (L : Array Bool) (a : Act) (V : World) : Prop where
  sz : L.size = 6
  low : Below W.heap.size W V
  ex : ∃ X : Nat → Value, a = actC g w X ∧ X 3 = u3 ∧ X 4 = u4 ∧ (L.getD 0 false = true → X 11 = .agg (gramC g)) ∧ (L.getD 1 false = true → LivV g (X 12) V) ∧ (L.getD 2 false = true → X 13 = .pointer (some ⟨w.heap.size, 2, none⟩)) ∧ (L.getD 3 false = true → X 14 = .int .i64 g.start) ∧ (L.getD 4 false = true → LivA g (X 15) V) ∧ (L.getD 5 false = true → ∃ b, X 16 = .bool b ∧ (b = true ↔ PV g g.start.toNat))
theorem I2.put {g : GramM} {w W : World} {u3 u4 : Value} {L : Array Bool} {a : Act} {V V' : World} (hI : I2 g w W u3 u4 L a V) {i d : Nat} (hi : i < 6) {v : Value} (hB : Below V.heap.size V V') (hd : d = 11 + i)
    (hv : (i = 0 → v = .agg (gramC g)) ∧ (i = 1 → LivV g v V') ∧ (i = 2 → v = .pointer (some ⟨w.heap.size, 2, none⟩)) ∧ (i = 3 → v = .int .i64 g.start) ∧ (i = 4 → LivA g v V') ∧ (i = 5 → ∃ b, v = .bool b ∧ (b = true ↔ PV g g.start.toNat))) : I2 g w W u3 u4 (L.setIfInBounds i true) (a.put (some d) v) V' := by
  obtain ⟨X, rfl, y3, y4, x0, x1, x2, x3, x4, x5⟩ := hI.ex
  have hs := hI.sz
  have up : ∀ {j : Nat}, (L.setIfInBounds i true).getD j false = true → i ≠ j → L.getD j false = true := fun {j} h e => by rwa [getD_set_ne false e] at h
  obtain ⟨v0, v1, v2, v3, v4, v5⟩ := hv
  refine ⟨by rw [Array.size_setIfInBounds]; exact hs, hI.low.trans (hB.mono hI.low.size), ⟨updX X d v, ?_, ?_, ?_, ?_, ?_, ?_, ?_, ?_, ?_⟩⟩
  · have : i = 0 ∨ i = 1 ∨ i = 2 ∨ i = 3 ∨ i = 4 ∨ i = 5 := by omega
    rcases this with rfl | rfl | rfl | rfl | rfl | rfl <;> subst hd <;> rfl
  all_goals try unfold updX
  · rw [if_neg (by omega)]; exact y3
  · rw [if_neg (by omega)]; exact y4
  · intro h
    by_cases e : i = 0
    · rw [if_pos (by omega)]; exact v0 e
    · rw [if_neg (by omega)]; exact x0 (up h e)
  · intro h
    by_cases e : i = 1
    · rw [if_pos (by omega)]; exact v1 e
    · rw [if_neg (by omega)]
      obtain ⟨M, B, h1, h2, h3⟩ := x1 (up h e)
      exact ⟨M, B, h1, h2, h3.below hB h3.lt⟩
  · intro h
    by_cases e : i = 2
    · rw [if_pos (by omega)]; exact v2 e
    · rw [if_neg (by omega)]; exact x2 (up h e)
  · intro h
    by_cases e : i = 3
    · rw [if_pos (by omega)]; exact v3 e
    · rw [if_neg (by omega)]; exact x3 (up h e)
  · intro h
    by_cases e : i = 4
    · rw [if_pos (by omega)]; exact v4 e
    · rw [if_neg (by omega)]
      obtain ⟨M, B, h1, h2, h3⟩ := x4 (up h e)
      exact ⟨M, B, h1, h2, h3.below hB h3.lt⟩
  · intro h
    by_cases e : i = 5
    · rw [if_pos (by omega)]; exact v5 e
    · rw [if_neg (by omega)]; exact x5 (up h e)
theorem opsB2_on (i : Nat) (o : Oper) (ho : opsB2.toArray[i]? = some o) (e : Go.Edge) (he : e ∈ o.after) : e.on < i := on_less (by kernel_rfl) i o ho e he

set_option maxRecDepth 100000 in
theorem r2_any {Q : Exit → Act → World → Prop} (g : GramM) (hm : MayB g) (hf : Fit g) (w W : World) (hg : GIn w g) (hlow : Below w.heap.size w W) (hb : Blk W w.heap.size 27 (gramC g)) (X0 : Nat → Value)
    (hQ : ∀ X V b, Below W.heap.size W V → X 3 = X0 3 → X 4 = X0 4 → X 16 = .bool b → (b = true ↔ PV g g.start.toNat) → Q .normal (actC g w X) V) : (Code.region 2 opsB2.toArray true).wp Tryz.prog Q (actC g w X0) W := by
  refine wp_region_any (by kernel_rfl) ?_
  refine wpAny_inv (I2 g w W (X0 3) (X0 4)) ?_ ?_ _ _ _ _ ?_ ?_
  · intro L a V hI i hi
    obtain ⟨hun, o, ho, hall⟩ := mem_ready.1 hi
    have hi6 : i < 6 := (Array.getElem?_eq_some_iff.1 ho).1
    have hbV := hb.below hI.low hb.lt
    obtain ⟨X, rfl, y3, y4, x0, x1, x2, x3, x4, x5⟩ := hI.ex
    obtain ⟨st, hst, hstn⟩ := hm.start
    have : i = 0 ∨ i = 1 ∨ i = 2 ∨ i = 3 ∨ i = 4 ∨ i = 5 := by omega
    rcases this with rfl | rfl | rfl | rfl | rfl | rfl <;> cases ho <;> refine wpOp_go rfl rfl ?_
    · refine upon_of (ld27 (v := g) rfl rfl (fun j v hj => by rw [Nat.zero_add, hbV.cell j]; exact hj)) ?_
      exact hI.put (by decide) (Below.refl _ _) rfl ⟨fun _ => rfl, by simp, by simp, by simp, by simp, by simp⟩
    · have v0 := x0 (hall ⟨0, .data⟩ (by simp [opsB2]) rfl)
      refine upon_of (call46 (u := .agg (gramC g)) rfl v0 rfl) ?_
      refine (productive_any g hm hf V (hg.below (hlow.trans (hI.low.mono hlow.size)))).mono ?_
      rintro e w'' ⟨M, B, h1, rfl, h2, h3, h4⟩
      rw [h1.1]
      exact hI.put (by decide) h4 rfl ⟨by simp, fun _ => ⟨M, B, h1, rfl, h3⟩, by simp, by simp, by simp, by simp⟩
    · refine upon_of (fa27_2 (g := w.heap.size) (m := 0) rfl rfl) ?_
      exact hI.put (by decide) (Below.refl _ _) rfl ⟨by simp, by simp, fun _ => rfl, by simp, by simp, by simp⟩
    · have v2 := x2 (hall ⟨2, .data⟩ (by simp [opsB2]) rfl)
      refine upon_of (ld3 rfl v2 (hbV.cell 2)) ?_
      exact hI.put (by decide) (Below.refl _ _) rfl ⟨by simp, by simp, by simp, fun _ => rfl, by simp, by simp⟩
    · obtain ⟨M, B, h1, h2, h3⟩ := x1 (hall ⟨1, .data⟩ (by simp [opsB2]) rfl)
      have v3 := x3 (hall ⟨3, .data⟩ (by simp [opsB2]) rfl)
      rw [hst] at v3
      refine upon_of (ix31 (k := st) (q := st) rfl h2 v3 hstn (by omega)) ?_
      exact hI.put (by decide) (Below.refl _ _) rfl ⟨by simp, by simp, by simp, by simp, fun _ => ⟨M, B, h1, by rw [hst, Int.toNat_natCast], h3⟩, by simp⟩
    · obtain ⟨M, B, h1, h2, h3⟩ := x4 (hall ⟨4, .data⟩ (by simp [opsB2]) rfl)
      have hc := h3.cell g.start.toNat
      rw [hst, Int.toNat_natCast, bools_at _ _ (by rw [h1.1]; exact hstn)] at hc
      rw [hst, Int.toNat_natCast] at h2
      refine upon_of (ld4 rfl h2 hc) ?_
      refine hI.put (by decide) (Below.refl _ _) rfl ⟨by simp, by simp, by simp, by simp, by simp, fun _ => ⟨_, rfl, ?_⟩⟩
      rw [hst, Int.toNat_natCast, ← h1.2 st]
      unfold lv
      rw [Int.toNat_natCast, List.getD_eq_getElem?_getD]
      cases e : M[st]? with
      | none => simp
      | some v => simp
  · intro L a V hI hr
    have hd := all_done (ops := opsB2.toArray) (n := 6) rfl hI.sz opsB2_on hr
    obtain ⟨X, rfl, y3, y4, x0, x1, x2, x3, x4, x5⟩ := hI.ex
    obtain ⟨b, h1, h2⟩ := x5 (hd 5 (by decide))
    exact hQ X V b hI.low y3 y4 h1 h2
  · exact Nat.le_trans List.countP_le_length (by simp)
  · have z : ∀ j, (Array.replicate opsB2.toArray.size false).getD j false = true → False := fun j h => by rw [getD_replicate_false] at h; cases h
    exact ⟨rfl, (Below.refl _ _).drew, ⟨X0, rfl, rfl, rfl, fun h => (z _ h).elim, fun h => (z _ h).elim, fun h => (z _ h).elim, fun h => (z _ h).elim, fun h => (z _ h).elim, fun h => (z _ h).elim⟩⟩
end Go.Proofs.YtodnlcbnbkkanaaGreatDoor
end
section
namespace Go.Proofs.YtodnlcbnbkkanaaGreatDoor
open Go Go.RowKit

def BacksPost (g : GramM) (w : World) (e : Ending) (w' : World) : Prop := ∃ (B : List BackM) (Bb : Nat), BackP g B ∧ e = .returned (.slice (some ⟨Bb, 0, none⟩) g.sorts.length g.sorts.length) ∧ w.heap.size ≤ Bb ∧ Blk w' Bb 123 (backsC B) ∧ Below w.heap.size w w'
def put6 (W : World) (B o : Nat) (t : BackM) : World := (((((W.setCell ⟨B, o, none⟩ (.bool t.there)).setCell ⟨B, o + 1, none⟩ (.int .u64 (wdI t.bytes 0))).setCell ⟨B, o + 2, none⟩ (.int .u64 (wdI t.bytes 1))).setCell ⟨B, o + 3, none⟩ (.int .u64 (wdI t.bytes 2))).setCell ⟨B, o + 4, none⟩ (.int .u64 (wdI t.bytes 3))).setCell ⟨B, o + 5, none⟩ (.bool t.fin)
theorem put6_blk {W : World} {B k : Nat} {F : List BackM} {t : BackM} (h : Blk W B 123 (backsC F)) (hk : k < F.length) : Blk (put6 W B (k * 6) t) B 123 (backsC (F.set k t)) := by
  have h6 : Blk (put6 W B (k * 6) t) B 123 _ := (((((h.set (k * 6) (.bool t.there)).set (k * 6 + 1) (.int .u64 (wdI t.bytes 0))).set (k * 6 + 2) (.int .u64 (wdI t.bytes 1))).set (k * 6 + 3) (.int .u64 (wdI t.bytes 2))).set (k * 6 + 4) (.int .u64 (wdI t.bytes 3))).set (k * 6 + 5) (.bool t.fin)
  have hz : k * 6 + 6 ≤ (backsC F).size := by rw [backsC_size]; omega
  rw [backsC_put (t := t) hk (ds := ((((((backsC F).setIfInBounds (k * 6) (.bool t.there)).setIfInBounds (k * 6 + 1) (.int .u64 (wdI t.bytes 0))).setIfInBounds (k * 6 + 2) (.int .u64 (wdI t.bytes 1))).setIfInBounds (k * 6 + 3) (.int .u64 (wdI t.bytes 2))).setIfInBounds (k * 6 + 4) (.int .u64 (wdI t.bytes 3))).setIfInBounds (k * 6 + 5) (.bool t.fin)) (by simp only [Array.size_setIfInBounds]) (fun j hj => by
    rw [Array.getElem?_setIfInBounds_ne (by omega), Array.getElem?_setIfInBounds_ne (by omega), Array.getElem?_setIfInBounds_ne (by omega), Array.getElem?_setIfInBounds_ne (by omega), Array.getElem?_setIfInBounds_ne (by omega), Array.getElem?_setIfInBounds_ne (by omega)]) (backAt_of (by
      rw [Array.getElem?_setIfInBounds_ne (by omega), Array.getElem?_setIfInBounds_ne (by omega), Array.getElem?_setIfInBounds_ne (by omega), Array.getElem?_setIfInBounds_ne (by omega), Array.getElem?_setIfInBounds_ne (by omega), Array.getElem?_setIfInBounds_self_of_lt (by omega)]) (setAt_of fun j hj => by
      have : j = 0 ∨ j = 1 ∨ j = 2 ∨ j = 3 := by omega
      rcases this with rfl | rfl | rfl | rfl
      · rw [Array.getElem?_setIfInBounds_ne (by omega), Array.getElem?_setIfInBounds_ne (by omega), Array.getElem?_setIfInBounds_ne (by omega), Array.getElem?_setIfInBounds_ne (by omega), Nat.add_zero, Array.getElem?_setIfInBounds_self_of_lt (by simp only [Array.size_setIfInBounds]; omega)]
      · rw [Array.getElem?_setIfInBounds_ne (by omega), Array.getElem?_setIfInBounds_ne (by omega), Array.getElem?_setIfInBounds_ne (by omega), Array.getElem?_setIfInBounds_self_of_lt (by simp only [Array.size_setIfInBounds]; omega)]
      · rw [Array.getElem?_setIfInBounds_ne (by omega), Array.getElem?_setIfInBounds_ne (by omega), Array.getElem?_setIfInBounds_self_of_lt (by simp only [Array.size_setIfInBounds]; omega)]
      · rw [Array.getElem?_setIfInBounds_ne (by omega), Array.getElem?_setIfInBounds_self_of_lt (by simp only [Array.size_setIfInBounds]; omega)]) (by rw [Array.getElem?_setIfInBounds_self_of_lt (by simp only [Array.size_setIfInBounds]; omega)]))] at h6
  exact h6
theorem put6_low {N : Nat} {w W : World} {B o : Nat} {t : BackM} (h : Below N w W) (hB : N ≤ B) : Below N w (put6 W B o t) :=
  (((((h.setCell (p := ⟨B, o, none⟩) hB _).setCell (p := ⟨B, o + 1, none⟩) hB _).setCell (p := ⟨B, o + 2, none⟩) hB _).setCell (p := ⟨B, o + 3, none⟩) hB _).setCell (p := ⟨B, o + 4, none⟩) hB _).setCell (p := ⟨B, o + 5, none⟩) hB _
theorem put6_other {W : World} {B o C t : Nat} {b : BackM} {cs : Array Value} (h : Blk W C t cs) (hne : C ≠ B) : Blk (put6 W B o b) C t cs :=
  (((((h.other (a := ⟨B, o, none⟩) hne _).other (a := ⟨B, o + 1, none⟩) hne _).other (a := ⟨B, o + 2, none⟩) hne _).other (a := ⟨B, o + 3, none⟩) hne _).other (a := ⟨B, o + 4, none⟩) hne _).other (a := ⟨B, o + 5, none⟩) hne _
theorem noB_sound (W : List UInt8 → Prop) : SnH W noB := ⟨fun e => (by cases e), fun c e => (by simp [noB] at e), fun e => (by cases e)⟩
theorem soundB_none {g : GramM} (hs : MaySet g) (n : Nat) (h : ¬ PV g g.start.toNat) : SoundB g (List.replicate n noB) := by
  refine ⟨fun k b hk => ?_, fun ht => absurd ((pv_iff hs).2 ht) h⟩
  rw [List.getElem?_replicate] at hk
  split at hk
  · cases hk; exact noB_sound _
  · cases hk
theorem soundB_start {g : GramM} (hs : MaySet g) (n : Nat) (h : PV g g.start.toNat) (hn : g.start.toNat < n) : SoundB g ((List.replicate n noB).set g.start.toNat ⟨true, 0#256, true⟩) := by
  have hc := Ctx.start ((pv_iff hs).1 h)
  refine ⟨fun k b hk => ?_, fun _ => ⟨⟨true, 0#256, true⟩, List.getElem?_set_self (by simpa using hn), rfl, rfl⟩⟩
  rw [List.getElem?_set] at hk
  split at hk
  · next e =>
    split at hk
    · cases hk; subst e
      exact ⟨fun _ => ⟨[], hc⟩, fun c e => (by simp at e), fun _ => hc⟩
    · cases hk
  · rw [List.getElem?_replicate] at hk
    split at hk
    · cases hk; exact noB_sound _
    · cases hk

set_option maxRecDepth 100000 in
set_option maxHeartbeats 8000000 in
theorem backs_any (g : GramM) (hm : MayB g) (hs : MaySet g) (hf : Fit g) (w : World) (hg : GIn w g) : Calls Tryz.prog 79 #[gramV g] w (BacksPost g w) := by
  obtain ⟨st, hst, hstn⟩ := hm.start
  obtain ⟨W, hW⟩ : ∃ W, W = w.alloc (.cells (gramC g) 27) := ⟨_, rfl⟩
  have HW := Lib.hid hW
  have hlow : Below w.heap.size w W := by rw [hW]; exact (Below.refl _ _).alloc (Nat.le_refl _) _
  have hb : Blk W w.heap.size 27 (gramC g) := by rw [hW]; exact Blk.new w 27 _
  have HL := Lib.hid (And.intro hlow hb)
  have HMA := Lib.hid (And.intro hm (And.intro hs (And.intro hf hg)))
  have HLi := Lib.hid (fun V (hV : Below w.heap.size w V) => living_any g hm hf V (hg.below hV))
  have HSt := Lib.hid (And.intro hst hstn)
  clear hm hs hf hg hW hlow hb
  unfold gramV
  unfold gramV at HLi
  have HGC : Hid (gramC g = #[.slice g.sa g.sorts.length g.sc, .slice g.pa g.prods.length g.pc, .int .i64 g.start, .slice g.fa g.forbid.length g.fc, .slice g.wa g.follow.length g.wc]) := Lib.hid rfl
  go_enter Tryz.func79, Tryz.ntmps79
  go_upto_region 1 with fail
  rw [← HW.out]
  refine r1_any g HMA.out.1 HMA.out.2.1 HMA.out.2.2.1 w W HMA.out.2.2.2 HL.out.1 HL.out.2 (fun X V hV h118 h120 => ?_)
  unfold actB
  rename_i K hK
  refine hK _ _ ?_
  clear hK K
  go_wp2
  have hV2 : Below w.heap.size w V := HL.out.1.trans (hV.mono HL.out.1.size)
  refine r2_any g HMA.out.1 HMA.out.2.2.1 w V HMA.out.2.2.2 hV2 (HL.out.2.below hV HL.out.2.lt) (fun j => if j < 11 then X j else undef) (fun X2 V2 b hB2 e3 e4 e16 hbP => ?_)
  unfold actC
  rename_i K hK
  refine hK _ _ ?_
  clear hK K
  have e3 : X2 3 = X 3 := e3
  have e4 : X2 4 = X 4 := e4
  obtain ⟨Bx, u, v, p1, p2, p3, F, M, Bf, Be, hF, hM, huv, q4, q5, q6, q7⟩ := h118
  obtain ⟨Bh, u', r1, r2, r3, Bb, hu', r5, r6⟩ := h120
  have huv : u = .slice (some ⟨Bf, 0, none⟩) g.sorts.length g.sorts.length ∧ v = .slice (some ⟨Be, 0, none⟩) g.sorts.length g.sorts.length := by simpa using huv
  obtain ⟨rfl, rfl⟩ := huv
  subst hu'
  rw [e3, e4, e16, p1, r1]
  have hlow2 : Below w.heap.size w V2 := hV2.trans (hB2.mono hV2.size)
  have b27 := HL.out.2.below hV HL.out.2.lt
  have k27 := b27.below hB2 b27.lt
  have kx := p3.below hB2 p3.lt
  have kh := r3.below hB2 r3.lt
  have kb := r6.below hB2 r6.lt
  have kf := q6.below hB2 q6.lt
  have ke := q7.below hB2 q7.lt
  have hwW : w.heap.size < W.heap.size := HL.out.2.lt
  have HF := Lib.hid (And.intro hF hM)
  -- what is left, from the settled blocks on
  have HRest : Hid (∀ (B : List BackM) (V3 : World) (L : List Bool) (a : Option Addr) (c : Nat), Below w.heap.size w V3 → Blk V3 Bh 120 #[.slice (some ⟨Bb, 0, none⟩) g.sorts.length g.sorts.length] → Blk V3 Bx 118 #[.slice (some ⟨Bf, 0, none⟩) g.sorts.length g.sorts.length, .slice (some ⟨Be, 0, none⟩) g.sorts.length g.sorts.length] → Blk V3 Bb 123 (backsC B) → Blk V3 Bf 47 (setsC F) → Blk V3 Be 4 (bools M) → B.length = g.sorts.length → SoundB g B → Live g L → ∀ V4, OwnP V3.heap.size V4 a c (livL g L) → Below V3.heap.size V3 V4 → Calls Tryz.prog 67 #[.slice a (livL g L).length c, .func (.func 106) #[] #[.pointer (some ⟨Bh, 0, none⟩), .pointer (some ⟨Bx, 0, none⟩)]] V4 fun e w' => e = .returned (.tuple #[]) ∧ ∃ B', BackP g B' ∧ Below w.heap.size w w' ∧ Blk w' Bh 120 #[.slice (some ⟨Bb, 0, none⟩) g.sorts.length g.sorts.length] ∧ Blk w' Bb 123 (backsC B')) := Lib.hid (fun B V3 L a c h1 h2 h3 h4 h5 h6 h7 h8 hL V4 hO hB => by
    have hJ0 : KJ g w V3.heap.size Bh Bx Bb Bf Be g.sorts.length a c M L F B V4 := ⟨h2.below hB h2.lt, h3.below hB h3.lt, h4.below hB h4.lt, h5.below hB h5.lt, h6.below hB h6.lt, h7, h8, h1.trans (hB.mono h1.size), hO, by omega, h4.lt⟩
    refine (settle_any (livL g L) a c 106 #[.pointer (some ⟨Bh, 0, none⟩), .pointer (some ⟨Bx, 0, none⟩)] (fun _ _ => by kernel_rfl) (KJ g w V3.heap.size Bh Bx Bb Bf Be g.sorts.length a c M L F) (QuietB F M) sizeB (Nat.le_trans (livL_len g L) (Nat.le_trans HMA.out.1.prods (by omega))) (fun B W h => h.prods HMA.out.2.2.2) (fun B W V h hB => h.below hB) (backs_steps HMA.out.1 HMA.out.2.1 HMA.out.2.2.2 HF.out.2 hL HF.out.1) B V4 hJ0).mono ?_
    rintro e w' ⟨rfl, B', hJ, hq⟩
    exact ⟨rfl, B', backP_of HMA.out.1 HMA.out.2.1 HF.out.2 hL HF.out.1 hJ.len hJ.snd hq, hJ.low, hJ.bh, hJ.bb⟩)
  have hstn := HSt.out.2
  have hst := HSt.out.1
  have hstN : g.start.toNat = st := by rw [hst, Int.toNat_natCast]
  have hBb : w.heap.size ≤ Bb := by omega
  have HG2 : Hid (gramC g = #[.slice g.sa g.sorts.length g.sc, .slice g.pa g.prods.length g.pc, .int .i64 (st : Int), .slice g.fa g.forbid.length g.fc, .slice g.wa g.follow.length g.wc]) := Lib.hid (by rw [← hst]; rfl)
  have kz0 : (0 : Int) ≤ (st : Int) := by omega
  have kz1 : (st : Int) < (g.sorts.length : Int) := by omega
  clear hst HGC
  cases b with
  | false =>
    have hsnd := soundB_none (g := g) HMA.out.2.1 g.sorts.length (fun h => by have := hbP.2 h; cases this)
    rw [HG2.out] at k27
    obtain ⟨c0, c1, c2, c3, c4⟩ := cells5s k27
    have cl := k27.lt
    have HR := Lib.hid (fun L a c hL V4 hO hB => HRest.out (List.replicate g.sorts.length noB) V2 L a c hlow2 kh kx kb kf ke (by simp) hsnd hL V4 hO hB)
    have HL1 := HLi.out V2 hlow2
    unfold LivPost at HL1
    rw [HG2.out] at HL1
    have HL1 := Lib.hid HL1
    clear HLi HRest hsnd hbP k27 kx kh kb kf ke hlow2 hB2 hV hV2 b27 p3 r3 r6 q6 q7 hF hM
    go_wp2_with fail
    refine HL1.out.mono ?_
    rintro e w3 ⟨L, a, c, hL, rfl, hO, hB⟩
    have HR1 := Lib.hid (HR.out L a c hL w3 hO hB)
    clear HR hO hB HL1 c0 c1 c2 c3 c4
    go_wp2_with fail
    refine HR1.out.mono ?_
    rintro e w4 ⟨rfl, B', hP, hl4, hbh, hbb⟩
    have g0 := hbh.cell 0
    have gl := hbh.lt
    simp only [List.getElem?_toArray, List.getElem?_cons_zero] at g0
    have HE : Hid (BackP g B' ∧ Blk w4 Bb 123 (backsC B') ∧ Below w.heap.size w w4) := Lib.hid ⟨hP, hbb, hl4⟩
    clear hP hbb hl4 HR1 hbh
    go_wp2
    go_ret
    exact ⟨B', Bb, HE.out.1, rfl, hBb, HE.out.2.1, HE.out.2.2⟩
  | true =>
    have hsnd := soundB_start (g := g) HMA.out.2.1 g.sorts.length (hbP.1 rfl) (by rw [hstN]; exact hstn)
    rw [hstN] at hsnd
    rw [HG2.out] at k27
    obtain ⟨V3, hV3⟩ : ∃ V3, V3 = put6 V2 Bb (st * 6) ⟨true, 0#256, true⟩ := ⟨_, rfl⟩
    have hp : ∀ {C t : Nat} {cs : Array Value}, Blk V2 C t cs → C ≠ Bb → Blk V3 C t cs := fun h e => by rw [hV3]; exact put6_other h e
    have m27 := hp k27 (by omega)
    have mx := hp kx (blk_ne kx kb (by decide))
    have mh := hp kh (blk_ne kh kb (by decide))
    have mf := hp kf (blk_ne kf kb (by decide))
    have me := hp ke (blk_ne ke kb (by decide))
    have mb : Blk V3 Bb 123 (backsC ((List.replicate g.sorts.length noB).set st ⟨true, 0#256, true⟩)) := by rw [hV3]; exact put6_blk kb (by simpa using hstn)
    have mlow : Below w.heap.size w V3 := by rw [hV3]; exact put6_low hlow2 hBb
    have HV3 : Hid (V3 = (((((V2.setCell ⟨Bb, st * 6, none⟩ (.bool true)).setCell ⟨Bb, st * 6 + 1, none⟩ (.int .u64 0)).setCell ⟨Bb, st * 6 + 2, none⟩ (.int .u64 0)).setCell ⟨Bb, st * 6 + 3, none⟩ (.int .u64 0)).setCell ⟨Bb, st * 6 + 4, none⟩ (.int .u64 0)).setCell ⟨Bb, st * 6 + 5, none⟩ (.bool true)) := Lib.hid (by rw [hV3]; unfold put6; simp only [wdI_zero])
    have HR := Lib.hid (fun L a c hL V4 hO hB => HRest.out ((List.replicate g.sorts.length noB).set st ⟨true, 0#256, true⟩) V3 L a c mlow mh mx mb mf me (by simp) hsnd hL V4 hO hB)
    have HL1 := HLi.out V3 mlow
    unfold LivPost at HL1
    rw [HG2.out] at HL1
    have HL1 := Lib.hid HL1
    have HM27 := Lib.hid m27
    obtain ⟨c0, c1, c2, c3, c4⟩ := cells5s k27
    have cl := k27.lt
    have g0 := kh.cell 0
    have gl := kh.lt
    simp only [List.getElem?_toArray, List.getElem?_cons_zero] at g0
    have hba := backsC_at (L := List.replicate g.sorts.length noB) (k := st) (b := noB) (by rw [List.getElem?_replicate, if_pos hstn])
    obtain ⟨o0, oS, o5⟩ := hba.cells
    have d0 := (kb.cell (st * 6)).trans o0
    have d1 := (kb.cell (st * 6 + 1 + 0)).trans (set_cell oS (j := 0) (by decide))
    have d2 := (kb.cell (st * 6 + 1 + 1)).trans (set_cell oS (j := 1) (by decide))
    have d3 := (kb.cell (st * 6 + 1 + 2)).trans (set_cell oS (j := 2) (by decide))
    have d4 := (kb.cell (st * 6 + 1 + 3)).trans (set_cell oS (j := 3) (by decide))
    have d5 := (kb.cell (st * 6 + 5)).trans o5
    simp only [Nat.add_zero, Nat.add_assoc, Nat.reduceAdd] at d1 d2 d3 d4
    have f0 := kb.frozen (st * 6)
    have f1 := kb.frozen (st * 6 + 1)
    have f2 := kb.frozen (st * 6 + 2)
    have f3 := kb.frozen (st * 6 + 3)
    have f4 := kb.frozen (st * 6 + 4)
    have f5 := kb.frozen (st * 6 + 5)
    have dl := kb.lt
    clear HLi HRest hsnd hbP k27 kx kh kb kf ke hlow2 hB2 hV hV2 b27 p3 r3 r6 q6 q7 hF hM hV3 hp m27 mx mh mf me mb mlow hba o0 oS o5
    go_upto_region 4 with fail
    rw [← HV3.out]
    clear c0 c1 c2 c3 c4 cl g0 gl d0 d1 d2 d3 d4 d5 f0 f1 f2 f3 f4 f5 dl
    obtain ⟨c0, c1, c2, c3, c4⟩ := cells5s HM27.out
    have cl := HM27.out.lt
    go_wp2_with fail
    refine HL1.out.mono ?_
    rintro e w3 ⟨L, a, c, hL, rfl, hO, hB⟩
    have HR1 := Lib.hid (HR.out L a c hL w3 hO hB)
    clear HR hO hB HL1 c0 c1 c2 c3 c4
    go_wp2_with fail
    refine HR1.out.mono ?_
    rintro e w4 ⟨rfl, B', hP, hl4, hbh, hbb⟩
    have g0 := hbh.cell 0
    have gl := hbh.lt
    simp only [List.getElem?_toArray, List.getElem?_cons_zero] at g0
    have HE : Hid (BackP g B' ∧ Blk w4 Bb 123 (backsC B') ∧ Below w.heap.size w w4) := Lib.hid ⟨hP, hbb, hl4⟩
    clear hP hbb hl4 HR1 hbh
    go_wp2
    go_ret
    exact ⟨B', Bb, HE.out.1, rfl, hBb, HE.out.2.1, HE.out.2.2⟩
end Go.Proofs.YtodnlcbnbkkanaaGreatDoor
end
section
namespace Go.Proofs.YtodnlcbnbkkanaaGreatDoor
open Go Go.RowKit

def FollowP (g : GramM) (F : List BS) : Prop := ∃ B, BackP g B ∧ F = B.map (·.bytes)
theorem FollowP.unique {g : GramM} {F F' : List BS} (h : FollowP g F) (h' : FollowP g F') : F = F' := by
  obtain ⟨B, h1, rfl⟩ := h
  obtain ⟨B', h2, rfl⟩ := h'
  rw [h1.unique h2]

set_option maxRecDepth 100000 in
set_option maxHeartbeats 8000000 in
theorem follow_any (g : GramM) (hm : MayB g) (hs : MaySet g) (hf : Fit g) (w : World) (hg : GIn w g) : Calls Tryz.prog 54 #[gramV g] w (SetsPost w (FollowP g)) := by
  have hB1 : Below w.heap.size w (w.alloc (.cells (gramC g) 27)) := (Below.refl _ _).alloc (Nat.le_refl _) _
  have HC := Lib.hid (backs_any g hm hs hf _ (hg.below hB1))
  have HB := Lib.hid hB1
  have Hs1 := Lib.hid (And.intro hm.sorts1 hm.sorts2)
  unfold BacksPost at HC
  obtain ⟨n, hn⟩ : ∃ n, n = g.sorts.length := ⟨_, rfl⟩
  have hn1 : n ≤ 1000 := by rw [hn]; exact hm.sorts2
  have HN := Lib.hid hn
  obtain ⟨i0, hi, hz0, hz1, hz2⟩ := info_parts info47
  clear hm hs hf hg hB1
  unfold gramV gramC at *
  rw [← hn] at HC HB ⊢
  clear hn
  go_enter Tryz.func54, Tryz.ntmps54
  go_wp2_with fail
  refine HC.out.mono ?_
  rintro e w2 ⟨B, Bb, hP, rfl, hb1, hk, hB2⟩
  have HP := Lib.hid hP
  have hBn : B.length = n := by rw [hP.1, HN.out]
  have HK0 := Lib.hid hk
  have HB0 := Lib.hid (HB.out.trans (hB2.mono HB.out.size))
  have hbl := hk.lt
  have hw2 := HB0.out.size
  clear hP hb1 hk hB2 HC
  go_wp2
  go_loopw [3, 9] (fun v i wr => ∃ (k : Nat), i = .int .i64 k ∧ k ≤ n ∧ Hid (wr.ownsRow w2.heap.size 47 4 v k (cellsL cset ((B.take k).map (·.bytes)))) ∧ Hid (Blk wr Bb 123 (backsC B)) ∧ Hid (Below w.heap.size w wr) ∧ w2.heap.size ≤ wr.heap.size)
    (fun _ i _ => n - (intOf i).toNat)
  case atStart => exact ⟨0, rfl, Nat.zero_le _, Lib.hid (World.ownsRow_nil _ _ _ _), HK0, HB0, Nat.le_refl _⟩
  case round =>
    clear HB0 HK0
    obtain ⟨k, rfl, hk, hO, hK, hB, hsz⟩ := hrel
    by_cases hlt : k < n
    · obtain ⟨b, hb⟩ : ∃ b, B[k]? = some b := ⟨_, List.getElem?_eq_getElem (by omega)⟩
      have HT : Hid ((B.take (k + 1)).map (·.bytes) = (B.take k).map (·.bytes) ++ [b.bytes]) := Lib.hid (by rw [take_snoc B k b hb, List.map_append]; rfl)
      obtain ⟨o0, oS, o5⟩ := (backsC_at hb).cells
      have d0 := (hK.out.cell (k * 6)).trans o0
      have d1 := (hK.out.cell (k * 6 + 1 + 0)).trans (set_cell oS (j := 0) (by decide))
      have d2 := (hK.out.cell (k * 6 + 1 + 1)).trans (set_cell oS (j := 1) (by decide))
      have d3 := (hK.out.cell (k * 6 + 1 + 2)).trans (set_cell oS (j := 2) (by decide))
      have d4 := (hK.out.cell (k * 6 + 1 + 3)).trans (set_cell oS (j := 3) (by decide))
      have d5 := (hK.out.cell (k * 6 + 5)).trans o5
      simp only [Nat.add_zero, Nat.add_assoc, Nat.reduceAdd] at d1 d2 d3 d4
      have dl := hK.out.lt
      have n1 : (k : Int) < (n : Int) := by omega
      have n0 : (0 : Int) ≤ (k : Int) := by omega
      have HCN := cells_new (wr.alloc (.cells #[.bool b.there, .int .u64 (wdI b.bytes 0), .int .u64 (wdI b.bytes 1), .int .u64 (wdI b.bytes 2), .int .u64 (wdI b.bytes 3), .bool b.fin] 123)) #[.int .u64 (wdI b.bytes 0), .int .u64 (wdI b.bytes 1), .int .u64 (wdI b.bytes 2), .int .u64 (wdI b.bytes 3)] 47
      rw [World.size_alloc] at HCN
      have HCN := Lib.hid HCN
      clear o0 oS o5 hb
      go_wp2_with (at_builtin; refine wpList_append_own _ rfl (.tmp 13) (.tmp 16) 38 rfl w2.heap.size 47 i0 (.agg #[.int .u64 0, .int .u64 0, .int .u64 0, .int .u64 0]) 4 32 Tryz.underlying38 hi hz0 hz1 hz2 rfl (by decide) _ _ _ rfl ((hO.out.alloc _).alloc _) ⟨wr.heap.size + 1, 0, none⟩ 1 1 [.int .u64 (wdI b.bytes 0), .int .u64 (wdI b.bytes 1), .int .u64 (wdI b.bytes 2), .int .u64 (wdI b.bytes 3)] rfl rfl HCN.out (by simp [Value.oneCell']) (by unfold maxLen; omega) (by omega) (by simp; omega) ?_; intro v5 w5 hown5 hgrow5 _)
      have hf5 := own_fin ((hO.out.alloc _).alloc _) (((Below.refl w2.heap.size wr).alloc hsz _).alloc (by simp; omega) _) hsz hgrow5
      have hO5 : Hid (w5.ownsRow w2.heap.size 47 4 v5 (k + 1) (cellsL cset ((B.take (k + 1)).map (·.bytes)))) := Lib.hid (by
        rw [HT.out, cellsL_snoc]; exact hown5)
      have hK5 := Lib.hid (hK.out.below hf5 hbl)
      have hB5 := Lib.hid (hB.out.trans (hf5.mono hw2))
      have hs5 := Nat.le_trans hsz hf5.size
      clear hf5 hown5 hgrow5 hO hK hB d0 d1 d2 d3 d4 d5
      go_roundw
      case rel => exact ⟨k + 1, by go_num, by omega, hO5, hK5, hB5, hs5⟩
      case measure => simp [intOf]; omega
    · obtain rfl : k = n := by omega
      have hO2 := hO.out
      rw [List.take_of_length_le (by omega)] at hO2
      have hZ : Hid (∃ (Bo c : Nat) (cs : Array Value), u3 = .slice (some ⟨Bo, 0, none⟩) k c ∧ w.heap.size ≤ Bo ∧ Blk wr Bo 47 cs ∧ ∀ (j : Nat) (s : BS), (B.map (·.bytes))[j]? = some s → SetAt cs (j * 4) s) := Lib.hid (by
        rcases hO2.2 with ⟨_, h0⟩ | ⟨gB, cap, cur, h1, h2, h3, h4, h5, h6, h7⟩
        · have := Hs1.out.1
          have := HN.out
          omega
        · refine ⟨gB, cap, cur, h1, by omega, h3, fun j s hj i v hv => ?_⟩
          have hi4 : i < 4 := by
            have := (Array.getElem?_eq_some_iff.1 hv).1
            simpa [cset] using this
          have hjl : j < B.length := by
            have := (List.getElem?_eq_some_iff.1 hj).1
            simpa using this
          have h8 := cellsL_at (cs := cset) (k := 4) (fun _ => rfl) (B.map (·.bytes)) j s hj i hi4
          rw [← h7, List.getElem?_take, if_pos (by omega), hv, Array.getElem?_toList] at h8
          exact h8)
      have HF : Hid (FollowP g (B.map (·.bytes)) ∧ B.map (·.bytes) ≠ [] ∧ (B.map (·.bytes)).length = k) := Lib.hid ⟨⟨B, HP.out, rfl⟩, fun h => by
        have h := congrArg List.length h
        rw [List.length_map, List.length_nil] at h
        have := Hs1.out.1
        have := HN.out
        omega, by rw [List.length_map]; exact hBn⟩
      obtain ⟨Bo, c, cs, rfl, hz1', hz2', hz3'⟩ := hZ.out
      have HE := Lib.hid (And.intro hz1' (And.intro hz2' hz3'))
      clear hO hO2 hK hz1' hz2' hz3' hZ
      go_wp2
      go_ret
      exact ⟨_, Bo, c, cs, HF.out.1, HF.out.2.1, by rw [HF.out.2.2]; rfl, HE.out.1, HE.out.2.1, HE.out.2.2, hB.out⟩
end Go.Proofs.YtodnlcbnbkkanaaGreatDoor
end
section
namespace Go.Proofs.YtodnlcbnbkkanaaGreatDoor
open Go Go.RowKit

set_option maxRecDepth 100000 in
set_option maxHeartbeats 1000000 in
theorem Follow_any (g : GramM) (hf : FitG g) (w : World) (hg : GIn w g) : Calls Tryz.prog 23 #[gramV g] w (TellSets w g (FollowP g)) := by
  have hB1 : Below w.heap.size w (w.alloc (.cells (gramC g) 27)) := (Below.refl _ _).alloc (Nat.le_refl _) _
  have HC := Lib.hid (answerS_any g hf 54 (fun _ _ => by kernel_rfl) (FollowP g) _ (hg.below hB1) (fun h W hW => follow_any g (mayB_of h) (maySet_of h) hf.fit W hW))
  have HB := Lib.hid hB1
  clear hf hg hB1
  unfold gramV gramC at *
  go_enter Tryz.func23, Tryz.ntmps23
  go_wp2_with fail
  refine HC.out.mono ?_
  rintro e w3 ⟨hB3, ⟨hc, rfl⟩ | ⟨hc, F, B, c, cs, hR, hne, rfl, hBl, hk, hat⟩⟩
  · have HB3 := Lib.hid (HB.out.trans (hB3.mono HB.out.size))
    have Hc := Lib.hid hc
    clear hB3 hc HC
    go_wp2
    go_ret2
    exact ⟨HB3.out, .inl ⟨Hc.out, rfl⟩⟩
  · have HB3 := Lib.hid (HB.out.trans (hB3.mono HB.out.size))
    have Hc := Lib.hid hc
    have HR := Lib.hid (And.intro hR hne)
    have HBl : Hid (w.heap.size ≤ B) := Lib.hid (Nat.le_trans HB.out.size hBl)
    have HK := Lib.hid (And.intro hk hat)
    clear hB3 hc HC hR hne hBl hk hat
    go_wp2
    go_ret2
    exact ⟨HB3.out, .inr ⟨Hc.out, F, B, c, cs, HR.out.1, HR.out.2, rfl, HBl.out, HK.out.1, HK.out.2⟩⟩
end Go.Proofs.YtodnlcbnbkkanaaGreatDoor
end
