import Derived.Test.YtmlkeddiagmedaaUndo
namespace Go.Proofs.Ytmlkeddiagmedaa
open Go.RowKit

def undoPost (s : ByteArray) (d : List Ed) (w : World) (e : Ending) (w' : World) : Prop :=
  Below w.heap.size w w' ∧ ((¬ (∀ x ∈ d, goodEd s.size x) ∧ e = .returned (.tuple #[.slice none 0 0, .int .i64 4])) ∨
    ((∀ x ∈ d, goodEd s.size x) ∧ ∃ sd : List Ed, sd.Perm d ∧ SortedEd sd ∧
      ((Ovl sd ∧ e = .returned (.tuple #[.slice none 0 0, .int .i64 110])) ∨
       (¬ Ovl sd ∧ ((1048576 < s.size + sumG sd ∧ e = .returned (.tuple #[.slice none 0 0, .int .i64 3])) ∨
         (s.size + sumG sd ≤ 1048576 ∧ ∃ v, e = .returned (.tuple #[v, .int .i64 0]) ∧ OwnEd w.heap.size v (undoA s (joinA sd) 0) w'))))))

theorem cell_after {w4 w5 : World} {o : Obj} {row : Option Nat} {b i : Nat} {v : Value} (hg : (w4.alloc o).grownBy w5 row) (h : w4.cell? ⟨b, i, none⟩ = some v) (hne : some b ≠ row) : w5.cell? ⟨b, i, none⟩ = some v := by
  have hb := lt_of_cell h
  rw [hg.cell_far ⟨b, i, none⟩ (by simp; omega) hne, World.cell?_alloc_lt w4 o ⟨b, i, none⟩ hb]; exact h
theorem le_alloc {n : Nat} {w : World} (h : n ≤ w.heap.size) (o : Obj) : n ≤ (w.alloc o).heap.size := by simp; omega

set_option maxHeartbeats 2000000 in
set_option maxRecDepth 100000 in
theorem undo_any (s : ByteArray) (a : Option Addr) (cap : Nat) (d : List Ed) (w : World) (B : Nat) (hs : s.size ≤ 1048576) (hd : RowEd w a d) (hl : d.length ≤ 1048576) (hB : smallEd B d) (hBB : B ≤ 1073741824) :
    Calls Try.prog 17 #[.string s, .slice a d.length cap] w (undoPost s d w) := by
  obtain ⟨i0, hi, hz0, hz1, hz2⟩ := info_parts infoEd
  have HT := Lib.hid (applicable_any s a cap d w B hs hd hl hB hBB)
  have HB := Lib.hid hB
  clear hd hB
  go_enter Try.func17, Try.ntmps17
  go_wp2_with fail
  refine HT.out.mono ?_
  rintro e w1 ⟨hB1, ⟨hno, rfl⟩ | ⟨hgood, sd, hperm, hsort, ⟨hov, rfl⟩ | ⟨hnov, ⟨hbig, rfl⟩ | ⟨hle, a1, c1, hrow, hfresh, rfl⟩⟩⟩⟩
  · have H := Lib.hid hno; clear hno
    go_wp2
    go_ret2
    exact ⟨hB1, .inl ⟨H.out, rfl⟩⟩
  · have H := Lib.hid (And.intro hgood (And.intro hperm (And.intro hsort hov))); clear hgood hperm hsort hov
    go_wp2
    go_ret2
    exact ⟨hB1, .inr ⟨H.out.1, sd, H.out.2.1, H.out.2.2.1, .inl ⟨H.out.2.2.2, rfl⟩⟩⟩
  · have H := Lib.hid (And.intro hgood (And.intro hperm (And.intro hsort (And.intro hnov hbig)))); clear hgood hperm hsort hnov hbig
    go_wp2
    go_ret2
    exact ⟨hB1, .inr ⟨H.out.1, sd, H.out.2.1, H.out.2.2.1, .inr ⟨H.out.2.2.2.1, .inl ⟨H.out.2.2.2.2, rfl⟩⟩⟩⟩
  · have hlen : sd.length = d.length := hperm.length_eq
    have hgs : ∀ x ∈ sd, goodEd s.size x := fun x hx => hgood x (hperm.mem_iff.1 hx)
    have hss : smallEd B sd := fun x hx => HB.out x (hperm.mem_iff.1 hx)
    have hsl : sd.length ≤ 1048576 := by omega
    obtain ⟨hgj, hsj⟩ := joinA_good s.size B sd hgs hss
    have hjl := joinA_le sd
    have HJC := Lib.hid (joinCuts_any a1 c1 sd w1 hrow hsl)
    obtain ⟨J, hJ⟩ : ∃ J, J = joinA sd := ⟨_, rfl⟩
    rw [← hJ] at hgj hsj hjl HJC
    have hbd : ∀ k, k ≤ J.length → -1099511627776 ≤ sumG (J.take k) ∧ sumG (J.take k) ≤ 1125899906842624 := by
      intro k hk
      have hb := sumG_bd s.size B (J.take k) (take_mem hgj) (take_mem hsj)
      have hkl : (J.take k).length ≤ 1048576 := by rw [List.length_take]; omega
      have m1 : s.size * (J.take k).length ≤ 1048576 * 1048576 := Nat.mul_le_mul hs hkl
      have m2 : B * (J.take k).length ≤ 1073741824 * 1048576 := Nat.mul_le_mul hBB hkl
      omega
    have HBD := Lib.hid hbd
    have H := Lib.hid (And.intro hgood (And.intro hperm (And.intro hsort (And.intro hnov (And.intro hle hJ)))))
    have HG := Lib.hid (And.intro hgj hsj)
    have hJl : J.length ≤ 1048576 := by omega
    clear hgood hperm hsort hnov hfresh hgs hss hlen hrow hl HT HB hbd hle hgj hsj hJ hjl hsl
    go_wp2_with fail
    refine HJC.out.mono ?_
    rintro e w2 ⟨hB2, v2, rfl, hOJ⟩
    have hB3 := hB1.trans (hB2.mono hB1.size)
    have hvs : ∃ a2 c2, v2 = .slice a2 J.length c2 ∧ RowEd w2 a2 J := by
      rcases hOJ.shape with ⟨h1, h2⟩ | ⟨g, c, h, _⟩
      · exact ⟨none, 0, by rw [h1, h2]; rfl, by rw [h2]; intro i x hx; simp at hx⟩
      · subst h; exact ⟨_, _, rfl, hOJ.row⟩
    obtain ⟨a2, c2, rfl, hRJ⟩ := hvs
    have HR := Lib.hid hRJ
    have hB3' := Lib.hid hB3
    clear hRJ hOJ hB2 hB1 hB3 HJC
    go_wp2_with fail
    go_loopw [8, 9, 25] (fun v q p wr => ∃ k : Nat, p = .int .i64 k ∧ k ≤ J.length ∧ q = .int .i64 (sumG (J.take k)) ∧ Hid (OwnEd w2.heap.size v (undoA s (J.take k) 0) wr) ∧ Hid (Below w2.heap.size w2 wr))
      (fun _ _ p _ => J.length - (intOf p).toNat)
    case atStart => exact ⟨0, rfl, Nat.zero_le _, by simp [sumG], OwnEd.nil _ _, Below.refl _ _⟩
    case round =>
      obtain ⟨k, rfl, hk, rfl, hO, hB⟩ := hrel
      have hS := HBD.out k hk
      obtain ⟨S, hSe⟩ : ∃ S, S = sumG (J.take k) := ⟨_, rfl⟩
      rw [← hSe] at hS ⊢
      have HSE := Lib.hid hSe
      clear hSe
      by_cases hlt : k < J.length
      · obtain ⟨x, hx⟩ : ∃ x, J[k]? = some x := ⟨J[k], by simp [hlt]⟩
        obtain ⟨b, off, rfl, x0, x1, x2⟩ := HR.out _ _ hx
        have hb := lt_of_cell x0
        have cx0 : wr.cell? ⟨b, off + k * 3, none⟩ = some (.int .i64 x.1) := (hB.out.cell (p := ⟨b, _, none⟩) hb).trans x0
        have cx1 : wr.cell? ⟨b, off + k * 3 + 1, none⟩ = some (.int .i64 x.2.1) := (hB.out.cell (p := ⟨b, _, none⟩) hb).trans x1
        have cx2 : wr.cell? ⟨b, off + k * 3 + 2, none⟩ = some (.string x.2.2) := (hB.out.cell (p := ⟨b, _, none⟩) hb).trans x2
        have hgx := HG.out.1 x (List.mem_of_getElem? hx)
        have hsx := HG.out.2 x (List.mem_of_getElem? hx)
        have HE : Hid (sumG (J.take (k + 1)) = S + growI x ∧ undoA s (J.take (k + 1)) 0 = undoA s (J.take k) 0 ++ [(x.1 + S, x.1 + S + x.2.2.size, s.extract x.1.toNat x.2.1.toNat)]) := by
          refine ⟨?_, ?_⟩
          · rw [take_snoc J k x hx, sumG_snoc, HSE.out]
          · rw [take_snoc J k x hx, undoA_snoc, ← HSE.out, Int.zero_add]
        have hul : (undoA s (J.take k) 0).length = k := by rw [undoA_len, List.length_take]; omega
        have hS2 := HBD.out (k + 1) (by omega)
        rw [HE.out.1] at hS2
        unfold goodEd at hgx
        obtain ⟨f, u, t⟩ := x
        dsimp only at *
        obtain ⟨g0, g1, g2⟩ := hgx
        unfold growI at hS2 HE
        dsimp only at *
        obtain ⟨f, rfl⟩ := Int.eq_ofNat_of_zero_le g0
        obtain ⟨u, rfl⟩ := Int.eq_ofNat_of_zero_le (a := u) (by omega)
        rw [Int.toNat_natCast, Int.toNat_natCast] at HE
        have HC := Lib.hid (fun W => clone27 (s.extract f u) W (by rw [ByteArray.size_extract]; omega))
        have HGR := fun W => Lib.hid (growth_any f u t W g0 g1 (by omega) (by omega))
        clear x0 x1 x2 hx
        have bE := Blk.new wr 42 #[.int .i64 f, .int .i64 u, .string t]
        have c0 : (wr.alloc (.cells #[.int .i64 f, .int .i64 u, .string t] 42)).cell? ⟨wr.heap.size, 0, none⟩ = some (.int .i64 f) := bE.cell 0
        have c1 : (wr.alloc (.cells #[.int .i64 f, .int .i64 u, .string t] 42)).cell? ⟨wr.heap.size, 1, none⟩ = some (.int .i64 u) := bE.cell 1
        have c2 : (wr.alloc (.cells #[.int .i64 f, .int .i64 u, .string t] 42)).cell? ⟨wr.heap.size, 2, none⟩ = some (.string t) := bE.cell 2
        have hsz : wr.heap.size < (wr.alloc (.cells #[.int .i64 f, .int .i64 u, .string t] 42)).heap.size := bE.lt
        have hown := hO.out.alloc (.cells #[.int .i64 f, .int .i64 u, .string t] 42)
        have hbel := hB.out.alloc hB.out.size (.cells #[.int .i64 f, .int .i64 u, .string t] 42)
        have hfar : u8.ownBlock ≠ some wr.heap.size := by
          intro e; have := (hO.out.lt _ e).2; omega
        have hp63 : (undoA s (J.take k) 0).length + 1 ≤ maxLen := by rw [hul]; unfold maxLen; omega
        have hpb : ((undoA s (J.take k) 0).length + 1) * 32 ≤ 140737488355328 := by rw [hul]; omega
        have i1 : (f : Int) ≤ (u : Int) := by omega
        have i2 : (u : Int) ≤ (s.size : Int) := by omega
        have i3 : (0 : Int) ≤ (f : Int) := by omega
        clear hO
        go_wp2_with fail
        clear cx0 cx1 cx2
        have hw : IntKind.i64.wrap ((f : Int) + S + (t.size : Int)) = (f : Int) + S + (t.size : Int) := IntWalk.i64_in _ (by omega)
        generalize hW3 : wr.alloc (.cells #[.int .i64 f, .int .i64 u, .string t] 42) = w3 at *
        go_region_held3 (fun W => W.cell? ⟨wr.heap.size, 0, none⟩ = some (.int .i64 f) ∧ W.cell? ⟨wr.heap.size, 1, none⟩ = some (.int .i64 u) ∧ W.cell? ⟨wr.heap.size, 2, none⟩ = some (.string t)) (go_keep)
          (first
            | (go_at_call 27; refine (HC.out _).mono ?_; rintro e w4 ⟨rfl, hB4⟩; have hO4 := OwnEd.below2 hB4 hown rfl; have hB5 := (show Below w2.heap.size w2 w3.drew from hbel.drew).trans (hB4.mono (show w2.heap.size ≤ w3.drew.heap.size from hbel.size)); have e0 := (hB4.cell (p := ⟨wr.heap.size, 0, none⟩) hsz).trans c0; have e1 := (hB4.cell (p := ⟨wr.heap.size, 1, none⟩) hsz).trans c1; have e2 := (hB4.cell (p := ⟨wr.heap.size, 2, none⟩) hsz).trans c2)
            | (refine step_append_lies _ (by rfl) _ _ _ (by rfl) w2.heap.size 42 i0 _ 3 32 Try.underlying39 hi hz0 hz1 hz2 rfl (by decide) _ _ _ (by rfl) (hO4.alloc (.cells #[.int .i64 ((f : Int) + S), .int .i64 ((f : Int) + S + (t.size : Int)), .string (s.extract f u)] 42)) ⟨w4.heap.size, 0, none⟩ 1 1 [.int .i64 ((f : Int) + S), .int .i64 ((f : Int) + S + (t.size : Int)), .string (s.extract f u)] (by rfl) (by rfl) (World.news_of_block (cs := #[.int .i64 ((f : Int) + S), .int .i64 ((f : Int) + S + (t.size : Int)), .string (s.extract f u)]) (t := 42) (fr := (0, 0)) (heap_alloc_new w4 _)) (by simp [Value.oneCell']) (by decide) hp63 hpb (le_alloc hB5.size _) (w4.heap.size + 1) (by simp) ?_; intro gg cap w5 hown1 hgrow hat hlt5; have k0 := cell_after hgrow e0 (Ne.symm hfar); have k1 := cell_after hgrow e1 (Ne.symm hfar); have k2 := cell_after hgrow e2 (Ne.symm hfar)))
        clear hw
        have hO6 : Hid (OwnEd w2.heap.size (.slice (some ⟨gg, 0, none⟩) (k + 1) cap) (undoA s (J.take (k + 1)) 0) w5) := by
          show OwnEd _ _ _ _
          unfold OwnEd
          rw [HE.out.2, List.flatMap_append, List.length_append]
          rw [hul] at hown1 ⊢
          exact hown1
        have hB6 : Below w2.heap.size w2 w5 := (hB5.alloc hB5.size _).grown hgrow (le_alloc hB5.size _) (fun k hk => (hown.lt k hk).1)
        have HE1 : Hid (sumG (J.take (k + 1)) = S + ((t.size : Int) - ((u : Int) - (f : Int)))) := HE.out.1
        clear hown1 hgrow hat hlt5 hB4 hO4 hB5 e0 e1 e2 c0 c1 c2 hsz hown hbel bE hfar hp63 hpb HE hul hB
        go_wp2_with fail
        refine (HGR _).out.mono ?_
        rintro e w6 ⟨rfl, hB7⟩
        have hO7 : Hid (OwnEd w2.heap.size (.slice (some ⟨gg, 0, none⟩) (k + 1) cap) (undoA s (J.take (k + 1)) 0) w6) := hO6.out.below hB7 (Nat.le_refl _)
        have hB8 : Hid (Below w2.heap.size w2 w6) := hB6.trans (hB7.mono hB6.size)
        clear hB7 hB6 hO6 HGR k0 k1 k2
        go_wp2
        go_roundw
        case rel => exact ⟨k + 1, by go_num, by omega, by rw [HE1.out], hO7, hB8⟩
        case measure => simp [intOf]; omega
      · obtain rfl : k = J.length := by omega
        rw [List.take_length] at hO
        have hOf : Hid (OwnEd w.heap.size u8 (undoA s (joinA sd) 0) wr) := by
          have h := hO.out
          rw [H.out.2.2.2.2.2] at h
          exact ⟨h.1, h.2.imp id (fun ⟨g, cap, cur, h1, h2, h3⟩ => ⟨g, cap, cur, h1, Nat.le_trans hB3'.out.size h2, h3⟩)⟩
        have hBf := hB3'.out.trans (hB.out.mono hB3'.out.size)
        have HBf := Lib.hid hBf
        clear hBf
        obtain ⟨ao, n, c, rfl⟩ : ∃ ao n c, u8 = .slice ao n c := by
          rcases hOf.out.shape with ⟨h, _⟩ | ⟨g, c, h, _⟩
          · exact ⟨_, _, _, h⟩
          · exact ⟨_, _, _, h⟩
        go_wp2
        go_ret2
        exact ⟨HBf.out, .inr ⟨H.out.1, sd, H.out.2.1, H.out.2.2.1, .inr ⟨H.out.2.2.2.1, .inr ⟨H.out.2.2.2.2.1, _, rfl, hOf.out⟩⟩⟩⟩

end Go.Proofs.Ytmlkeddiagmedaa
