import Derived.Test.YtodnlcbnbkkanaaGreatDoorO4
import Derived.Test.YtodnlcbnbkkanaaGreatDoorO7
section
namespace Go.Proofs.YtodnlcbnbkkanaaGreatDoor
open Go Go.RowKit

def chooseC (ch : List (Option (List UInt8))) (x : Nat × List UInt8) : List (Option (List UInt8)) := if ((ch[x.1]?).getD none).isNone then ch.set x.1 (some x.2) else ch
theorem chooseC_len (ch : List (Option (List UInt8))) (x : Nat × List UInt8) : (chooseC ch x).length = ch.length := by unfold chooseC; split <;> simp

theorem ChS.tail {lim : Nat} {M : Mode lim} {N cb tb B off c : Nat} {w0 : World} {ch : List (Option (List UInt8))} {l : List ProdM} {os : List Off} {ov v' : Value} {w : World}
    (h2 : Blk w cb 132 #[.slice (some ⟨tb, 0, none⟩) ch.length ch.length, .slice (some ⟨B, off, none⟩) l.length c, ov]) (h3 : OffRow w0.heap.size w v' os.tail) (h4 : OffTs M N w os) (tx : TextsAt (M.T N) w tb ch) (srt : SortedA (os.map offA)) (row : ∃ cs, Blk w B 65 cs ∧ PRow cs off l 0) (bel : Below w0.heap.size w0 w) (high : N ≤ w.heap.size) (hcb : w0.heap.size ≤ cb) :
    ChS M N w0 cb tb B off c ch l (os.map offA).tail (w.setCell ⟨cb, 2, none⟩ v') := by
  have hne : ∀ {b e : Nat} {ds : Array Value}, Blk w b e ds → e ≠ 132 → Blk (w.setCell ⟨cb, 2, none⟩ v') b e ds := fun k he => k.other (fun hx => blk_ne k h2 he hx) _
  have hT : ∀ b t, M.T N w b t → M.T N (w.setCell ⟨cb, 2, none⟩ v') b t := fun b t k => M.kept k (grown_set w cb 2 _) (fun g hx => by
    cases hx
    exact ⟨132, _, h2, by decide, fun h => absurd h (by decide)⟩)
  obtain ⟨cs, r1, r2⟩ := row
  refine ⟨⟨os.tail, v', by rw [List.map_tail], h2.set 2 _, ?_, fun x hx => ⟨hT _ _ (h4 x (List.mem_of_mem_tail hx)).1, (h4 x (List.mem_of_mem_tail hx)).2⟩⟩, ?_, ?_, ⟨cs, hne r1 (by decide), r2⟩, bel.setCell (p := ⟨cb, 2, none⟩) hcb _, by rw [World.size_setCell]; exact high⟩
  · rcases h3 with h | ⟨g, off, cap, ds, k1, k2, k3, k4⟩
    · exact .inl h
    · exact .inr ⟨g, off, cap, ds, k1, k2, hne k3 (by decide), k4⟩
  · obtain ⟨ds, h1, h2, h3⟩ := tx
    refine ⟨ds, hne h1 (by decide), h2, fun i o ho => ?_⟩
    rcases h3 i o ho with h | ⟨t, b, k1, k2, k3⟩
    · exact .inl h
    · exact .inr ⟨t, b, k1, k2, hT _ _ k3⟩
  · intro i j a b hij ha hb
    rw [List.getElem?_tail] at ha hb
    exact srt (i + 1) (j + 1) a b (by omega) ha hb

theorem ChS.chosen {lim : Nat} {M : Mode lim} {N cb tb B off c k b : Nat} {w0 : World} {ch : List (Option (List UInt8))} {l : List ProdM} {a : List (Nat × List UInt8)} {t : List UInt8} {w : World} (h : ChS M N w0 cb tb B off c ch l a w) (hk : k < ch.length) (hb : M.T N w b t) (htb : w0.heap.size ≤ tb) (htN : tb < N) :
    ChS M N w0 cb tb B off c (ch.set k (some t)) l a (w.setCell ⟨tb, k, none⟩ (.pointer (some ⟨b, 0, none⟩))) := by
  obtain ⟨os, ov, h1, h2, h3, h4⟩ := h.ex
  obtain ⟨cs, t1, t2, t3⟩ := h.tx
  obtain ⟨rs, r1, r2⟩ := h.row
  have hne : ∀ {b' e : Nat} {ds : Array Value}, Blk w b' e ds → e ≠ 133 → Blk (w.setCell ⟨tb, k, none⟩ (.pointer (some ⟨b, 0, none⟩))) b' e ds := fun k he => k.other (fun hx => blk_ne k t1 he hx) _
  have hT : ∀ b' t', M.T N w b' t' → M.T N (w.setCell ⟨tb, k, none⟩ (.pointer (some ⟨b, 0, none⟩))) b' t' := fun b' t' hh => M.kept hh (grown_set w tb k _) (fun g hx => by
    cases hx
    exact ⟨133, _, t1, by decide, fun _ => htN⟩)
  refine ⟨⟨os, ov, h1, by rw [List.length_set]; exact hne h2 (by decide), ?_, fun x hx => ⟨hT _ _ (h4 x hx).1, (h4 x hx).2⟩⟩, ⟨_, t1.set k _, by rw [Array.size_setIfInBounds, List.length_set]; exact t2, fun i o ho => ?_⟩, h.srt, ⟨rs, hne r1 (by decide), r2⟩, h.below.setCell (p := ⟨tb, k, none⟩) htb _, by rw [World.size_setCell]; exact h.high⟩
  · rcases h3 with h | ⟨g, off, cap, ds, k1, k2, k3, k4⟩
    · exact .inl h
    · exact .inr ⟨g, off, cap, ds, k1, k2, hne k3 (by decide), k4⟩
  · by_cases hik : i = k
    · subst hik
      rw [List.getElem?_set_self hk] at ho
      cases ho
      exact .inr ⟨t, b, rfl, by rw [Array.getElem?_setIfInBounds_self_of_lt (by omega)], hT _ _ hb⟩
    · rw [List.getElem?_set_ne (by omega)] at ho
      rw [Array.getElem?_setIfInBounds_ne (by omega)]
      rcases t3 i o ho with h | ⟨t', b', k1, k2, k3⟩
      · exact .inl h
      · exact .inr ⟨t', b', k1, k2, hT _ _ k3⟩

theorem ChS.on {lim : Nat} {M : Mode lim} {N cb tb B off c : Nat} {w0 : World} {ch : List (Option (List UInt8))} {l : List ProdM} {a : List (Nat × List UInt8)} {w V : World} (h : ChS M N w0 cb tb B off c ch l a w) (hB : Below w.heap.size w V) : ChS M N w0 cb tb B off c ch l a V := by
  obtain ⟨os, ov, h1, h2, h3, h4⟩ := h.ex
  obtain ⟨rs, r1, r2⟩ := h.row
  exact ⟨⟨os, ov, h1, h2.below hB h2.lt, h3.below hB, h4.below hB⟩, TextsAt.below (T := M.T N) M.below h.tx hB, h.srt, ⟨rs, r1.below hB r1.lt, r2⟩, h.below.trans (hB.mono h.below.size), Nat.le_trans h.high hB.size⟩

set_option maxRecDepth 100000 in
set_option maxHeartbeats 8000000 in
theorem choose_any {lim : Nat} (M : Mode lim) (N : Nat) (w0 : World) (cb tb B off c : Nat) (ch : List (Option (List UInt8))) (l : List ProdM) (x : Nat × List UInt8) (a : List (Nat × List UInt8)) (w : World) (h : ChS M N w0 cb tb B off c ch l (x :: a) w) (hk : x.1 < ch.length) (hM : ch.length ≤ 1000)
    (hcb : w0.heap.size ≤ cb) (htb : w0.heap.size ≤ tb) (htN : tb < N) (hlen : a.length ≤ 1000000) :
    Calls Tryz.prog 86 #[.pointer (some ⟨cb, 0, none⟩)] w fun e w' => e = .returned (.tuple #[]) ∧ ChS M N w0 cb tb B off c (chooseC ch x) l a w' := by
  obtain ⟨os, ov, hos, hc, hO, hT⟩ := h.ex
  cases os with
  | nil => simp at hos
  | cons o os =>
  rw [List.map_cons, List.cons.injEq] at hos
  obtain ⟨rfl, hos⟩ := hos
  rcases hO with ⟨_, h0⟩ | ⟨g, off1, cap, cs, rfl, hg0, hg, hcap, hc63, hsz, hseg⟩
  · cases h0
  have hol : (o :: os).length = a.length + 1 := by rw [List.length_cons, ← hos, List.length_map]
  have x0 : w.cell? ⟨g, off1, none⟩ = some (.int .i64 o.sort) := (hg.cell _).trans (hseg 0 _ rfl)
  have x1 : w.cell? ⟨g, off1 + 1, none⟩ = some (.pointer (some ⟨o.b, 0, none⟩)) := (hg.cell _).trans (hseg 1 _ rfl)
  have lg := hg.lt
  have c2 := hc.cell 2
  have c0 := hc.cell 0
  have lc := hc.lt
  have fc := hc.frozen 2
  have hTail : ∀ v', OffRow w0.heap.size w v' os → ChS M N w0 cb tb B off c ch l a ((w.setCell ⟨cb, 2, none⟩ v').alloc (.cells (offC o) 158)) := fun v' hv' => by
    have hs := h.srt
    have hh := ChS.tail (os := o :: os) (v' := v') hc hv' hT h.tx (by rw [List.map_cons, hos]; exact hs) h.row h.below h.high hcb
    rw [List.map_cons, List.tail_cons, hos] at hh
    exact hh.on ((Below.refl _ _).alloc (Nat.le_refl _) _)
  have hseg2 : SegAt cs (off1 + 2) (cellsL offC os) := by
    have : SegAt cs off1 ((offC o).toList ++ cellsL offC os) := hseg
    exact this.right
  simp only [List.length_cons] at hcap c2
  obtain ⟨ds, t1, t2, t3⟩ := h.tx
  obtain ⟨k, hkk⟩ : ∃ k, k = o.sort := ⟨_, rfl⟩
  have hk : k < ch.length := by rw [hkk]; exact hk
  obtain ⟨u0, hget⟩ : ∃ u0, ch[k]? = some u0 := ⟨_, List.getElem?_eq_getElem hk⟩
  have htc : tb ≠ cb := fun hx => blk_ne t1 hc (by decide) hx
  have hTo := (hT o (by simp)).1
  have HCC : Hid (chooseC ch (offA o) = if ((ch[k]?).getD none).isNone then ch.set k (some o.t) else ch) := Lib.hid (by rw [hkk]; rfl)
  obtain ⟨v', HZ, hv'⟩ : ∃ v', Hid (ChS M N w0 cb tb B off c ch l a ((w.setCell ⟨cb, 2, none⟩ v').alloc (.cells (offC o) 158))) ∧ v' = .slice (some ⟨g, (if cap = 1 then off1 else off1 + 2), none⟩) os.length (cap - 1) := by
    refine ⟨_, Lib.hid (hTail _ (.inr ⟨g, (if cap = 1 then off1 else off1 + 2), cap - 1, cs, rfl, hg0, hg, by omega, by omega, ?_, ?_⟩)), rfl⟩
    · split <;> omega
    · split
      · have : os = [] := List.length_eq_zero_iff.1 (by omega)
        rw [this]
        intro j u hj
        simp [cellsL] at hj
      · exact hseg2
  have ht1 : Blk (w.setCell ⟨cb, 2, none⟩ v') tb 133 ds := t1.other (by show tb ≠ cb; exact htc) _
  have hc1 : Blk (w.setCell ⟨cb, 2, none⟩ v') cb 132 #[.slice (some ⟨tb, 0, none⟩) ch.length ch.length, .slice (some ⟨B, off, none⟩) l.length c, v'] := hc.set 2 v'
  have HTk : Hid (M.T N ((w.setCell ⟨cb, 2, none⟩ v').alloc (.cells (offC o) 158)) o.b o.t) := Lib.hid (M.below (M.kept hTo (grown_set w cb 2 v') (fun g hx => by
    cases hx
    exact ⟨132, _, hc, by decide, fun h => absurd h (by decide)⟩)) ((Below.refl _ _).alloc (Nat.le_refl _) _))
  have ltb := t1.lt
  obtain ⟨m, hm⟩ : ∃ m, m = ch.length := ⟨_, rfl⟩
  rw [← hm] at c0 hM hc1
  have z1 : (k : Int) < (m : Int) := by rw [hm]; exact Int.ofNat_lt.2 hk
  have z0 : (0 : Int) ≤ (k : Int) := by omega
  obtain ⟨q, hq⟩ : ∃ q, q = os.length := ⟨_, rfl⟩
  rw [← hq] at hcap c2 hv'
  rw [← hkk] at x0
  have HK := Lib.hid hk
  have hOc : Hid (offC o = #[.int .i64 (k : Int), .pointer (some ⟨o.b, 0, none⟩)]) := Lib.hid (by rw [hkk]; rfl)
  rw [hOc.out] at HZ HTk
  obtain ⟨ob, hob⟩ : ∃ ob, ob = o.b := ⟨_, rfl⟩
  obtain ⟨ot, hot⟩ : ∃ ot, ot = o.t := ⟨_, rfl⟩
  rw [← hob] at HZ HTk x1
  rw [← hot] at HTk HCC
  have y0 : ∀ u, ds[k]? = some u → (w.setCell ⟨cb, 2, none⟩ v').cell? ⟨tb, k, none⟩ = some u := fun u hu => (ht1.cell k).trans hu
  have y1 := ht1.lt
  have y2 := ht1.frozen k
  have d0 := hc1.cell 0
  have d1 := hc1.lt
  have hcase := t3 k _ hget
  have HTB1 := Lib.hid (And.intro ht1 hc1)
  have HG := Lib.hid hget
  clear hTail hseg2 hseg hsz hg hg0 hget h hT hTo t1 t2 t3 ht1 hc1 hkk hob hot hOc hos hm hk hq
  by_cases hc1' : cap = 1
  · rw [if_pos hc1'] at hv'
    subst hv'
    subst hc1'
    obtain rfl : q = 0 := by omega
    have HW0 := Lib.hid (Blk.new (w.setCell ⟨cb, 2, none⟩ (.slice (some ⟨g, off1, none⟩) 0 (1 - 1))) 158 #[.int .i64 (k : Int), .pointer (some ⟨ob, 0, none⟩)])
    rw [World.size_setCell] at HW0
    rcases hcase with ⟨ho, hu⟩ | ⟨t', b', ho, hu, _⟩
    · have y3 := y0 _ hu
      have hp : ∀ W : World, (binOp .eql 133 (.pointer none) (.pointer none)).run Tryz.prog W = .ok (.bool true) W := fun W => by kernel_rfl
      have HFin : Hid (∀ n : Nat, ChS M N w0 cb tb B off c (chooseC ch (offA o)) l a (((((w.setCell ⟨cb, 2, none⟩ (.slice (some ⟨g, off1, none⟩) 0 (1 - 1))).alloc (.cells #[.int .i64 (k : Int), .pointer (some ⟨ob, 0, none⟩)] 158)).drewN n).drew).setCell ⟨tb, k, none⟩ (.pointer (some ⟨ob, 0, none⟩)))) := Lib.hid fun n => by
        rw [HCC.out, HG.out, Option.getD_some, ho, if_pos (show (none : Option (List UInt8)).isNone = true from rfl)]
        have hB := (below_drewN (Below.refl ((w.setCell ⟨cb, 2, none⟩ (.slice (some ⟨g, off1, none⟩) 0 (1 - 1))).alloc (.cells #[.int .i64 (k : Int), .pointer (some ⟨ob, 0, none⟩)] 158)).heap.size ((w.setCell ⟨cb, 2, none⟩ (.slice (some ⟨g, off1, none⟩) 0 (1 - 1))).alloc (.cells #[.int .i64 (k : Int), .pointer (some ⟨ob, 0, none⟩)] 158))) n).drew
        exact (HZ.out.on hB).chosen HK.out (M.below HTk.out hB) htb htN
      have HY : Hid (∀ n : Nat, (((w.setCell ⟨cb, 2, none⟩ (.slice (some ⟨g, off1, none⟩) 0 (1 - 1))).alloc (.cells #[.int .i64 (k : Int), .pointer (some ⟨ob, 0, none⟩)] 158)).drewN n).cell? ⟨cb, 0, none⟩ = some (.slice (some ⟨tb, 0, none⟩) m m) ∧ (((w.setCell ⟨cb, 2, none⟩ (.slice (some ⟨g, off1, none⟩) 0 (1 - 1))).alloc (.cells #[.int .i64 (k : Int), .pointer (some ⟨ob, 0, none⟩)] 158)).drewN n).cell? ⟨w.heap.size, 0, none⟩ = some (.int .i64 (k : Int)) ∧ (((w.setCell ⟨cb, 2, none⟩ (.slice (some ⟨g, off1, none⟩) 0 (1 - 1))).alloc (.cells #[.int .i64 (k : Int), .pointer (some ⟨ob, 0, none⟩)] 158)).drewN n).cell? ⟨w.heap.size, 1, none⟩ = some (.pointer (some ⟨ob, 0, none⟩)) ∧ (((w.setCell ⟨cb, 2, none⟩ (.slice (some ⟨g, off1, none⟩) 0 (1 - 1))).alloc (.cells #[.int .i64 (k : Int), .pointer (some ⟨ob, 0, none⟩)] 158)).drewN n).cell? ⟨tb, k, none⟩ = some (.pointer none) ∧ (((w.setCell ⟨cb, 2, none⟩ (.slice (some ⟨g, off1, none⟩) 0 (1 - 1))).alloc (.cells #[.int .i64 (k : Int), .pointer (some ⟨ob, 0, none⟩)] 158)).drewN n).frozen? ⟨tb, k, none⟩ = false ∧ cb < (((w.setCell ⟨cb, 2, none⟩ (.slice (some ⟨g, off1, none⟩) 0 (1 - 1))).alloc (.cells #[.int .i64 (k : Int), .pointer (some ⟨ob, 0, none⟩)] 158)).drewN n).heap.size ∧ w.heap.size < (((w.setCell ⟨cb, 2, none⟩ (.slice (some ⟨g, off1, none⟩) 0 (1 - 1))).alloc (.cells #[.int .i64 (k : Int), .pointer (some ⟨ob, 0, none⟩)] 158)).drewN n).heap.size ∧ tb < (((w.setCell ⟨cb, 2, none⟩ (.slice (some ⟨g, off1, none⟩) 0 (1 - 1))).alloc (.cells #[.int .i64 (k : Int), .pointer (some ⟨ob, 0, none⟩)] 158)).drewN n).heap.size) := Lib.hid fun n => by
        have e0 := Blk.below HTB1.out.2 ((Below.refl _ _).alloc (Nat.le_refl _) (.cells #[.int .i64 (k : Int), .pointer (some ⟨ob, 0, none⟩)] 158)) HTB1.out.2.lt
        have e1 := Blk.below HTB1.out.1 ((Below.refl _ _).alloc (Nat.le_refl _) (.cells #[.int .i64 (k : Int), .pointer (some ⟨ob, 0, none⟩)] 158)) HTB1.out.1.lt
        exact ⟨e0.cell 0, HW0.out.cell 0, HW0.out.cell 1, (e1.cell k).trans hu, e1.frozen k, e0.lt, HW0.out.lt, e1.lt⟩
      clear y0 hu HZ HTk HW0 HTB1
      go_enter Tryz.func86, Tryz.ntmps86
      go_wp2
      go_quiet (fail)
      have HFn := Lib.hid (HFin.out nq)
      obtain ⟨f0, f1, f2, f3, f4, f5, f6, f7⟩ := HY.out nq
      obtain ⟨W3, hW3⟩ : ∃ W3, W3 = ((w.setCell ⟨cb, 2, none⟩ (.slice (some ⟨g, off1, none⟩) 0 (1 - 1))).alloc (.cells #[.int .i64 (k : Int), .pointer (some ⟨ob, 0, none⟩)] 158)).drewN nq := ⟨_, rfl⟩
      rw [← hW3] at HFn f0 f1 f2 f3 f4 f5 f6 f7 ⊢
      clear hW3 HFin HY y3 d0 d1 y1 y2 x0 x1 c0 c2 lc fc lg
      go_wp2
      refine wp_region_still_tail 9 (by kernel_rfl) (by kernel_rfl) ?_
      show wpStill _ _ (World.drew W3) _ _ _
      obtain ⟨V, hV⟩ : ∃ V, V = World.drew W3 := ⟨_, rfl⟩
      have HV := Lib.hid hV
      rw [← hV]
      have v0 : V.cell? ⟨cb, 0, none⟩ = some (.slice (some ⟨tb, 0, none⟩) m m) := by rw [hV]; exact f0
      have v1 : V.cell? ⟨w.heap.size, 0, none⟩ = some (.int .i64 (k : Int)) := by rw [hV]; exact f1
      have v2 : V.cell? ⟨w.heap.size, 1, none⟩ = some (.pointer (some ⟨ob, 0, none⟩)) := by rw [hV]; exact f2
      have v3 : V.cell? ⟨tb, k, none⟩ = some (.pointer none) := by rw [hV]; exact f3
      have v4 : V.frozen? ⟨tb, k, none⟩ = false := by rw [hV]; exact f4
      have v5 : cb < V.heap.size := by rw [hV]; exact f5
      have v6 : w.heap.size < V.heap.size := by rw [hV]; exact f6
      have v7 : tb < V.heap.size := by rw [hV]; exact f7
      rw [← hV] at HFn
      clear hV f0 f1 f2 f3 f4 f5 f6 f7
      simp only [List.take_succ_cons, List.take_zero, List.drop_succ_cons, List.drop_zero]
      repeat still_step
      refine wpStill_nil ?_
      show wpList _ _ _ _ _ (World.drew W3)
      rw [← HV.out]
      clear HV
      go_wp2
      go_end0
      exact ⟨rfl, HFn.out⟩
    · have y3 := y0 _ hu
      have hp : ∀ W : World, (binOp .eql 133 (.pointer (some ⟨b', 0, none⟩)) (.pointer none)).run Tryz.prog W = .ok (.bool false) W := fun W => by kernel_rfl
      have HFin : Hid (∀ n : Nat, ChS M N w0 cb tb B off c (chooseC ch (offA o)) l a (((w.setCell ⟨cb, 2, none⟩ (.slice (some ⟨g, off1, none⟩) 0 (1 - 1))).alloc (.cells #[.int .i64 (k : Int), .pointer (some ⟨ob, 0, none⟩)] 158)).drewN n)) := Lib.hid fun n => by
        rw [HCC.out, HG.out, Option.getD_some, ho, if_neg (by simp)]
        exact HZ.out.on (below_drewN (Below.refl ((w.setCell ⟨cb, 2, none⟩ (.slice (some ⟨g, off1, none⟩) 0 (1 - 1))).alloc (.cells #[.int .i64 (k : Int), .pointer (some ⟨ob, 0, none⟩)] 158)).heap.size ((w.setCell ⟨cb, 2, none⟩ (.slice (some ⟨g, off1, none⟩) 0 (1 - 1))).alloc (.cells #[.int .i64 (k : Int), .pointer (some ⟨ob, 0, none⟩)] 158))) n)
      clear y0 hu HZ HTk HW0 HTB1
      go_enter Tryz.func86, Tryz.ntmps86
      go_wp2
      go_quiet (fail)
      go_wp2
      go_end0
      exact ⟨rfl, HFin.out _⟩
  · rw [if_neg hc1'] at hv'
    subst hv'
    have hqc : 1 ≤ q + 1 := by omega
    have HW0 := Lib.hid (Blk.new (w.setCell ⟨cb, 2, none⟩ (.slice (some ⟨g, off1 + 2, none⟩) q (cap - 1))) 158 #[.int .i64 (k : Int), .pointer (some ⟨ob, 0, none⟩)])
    rw [World.size_setCell] at HW0
    rcases hcase with ⟨ho, hu⟩ | ⟨t', b', ho, hu, _⟩
    · have y3 := y0 _ hu
      have hp : ∀ W : World, (binOp .eql 133 (.pointer none) (.pointer none)).run Tryz.prog W = .ok (.bool true) W := fun W => by kernel_rfl
      have HFin : Hid (∀ n : Nat, ChS M N w0 cb tb B off c (chooseC ch (offA o)) l a (((((w.setCell ⟨cb, 2, none⟩ (.slice (some ⟨g, off1 + 2, none⟩) q (cap - 1))).alloc (.cells #[.int .i64 (k : Int), .pointer (some ⟨ob, 0, none⟩)] 158)).drewN n).drew).setCell ⟨tb, k, none⟩ (.pointer (some ⟨ob, 0, none⟩)))) := Lib.hid fun n => by
        rw [HCC.out, HG.out, Option.getD_some, ho, if_pos (show (none : Option (List UInt8)).isNone = true from rfl)]
        have hB := (below_drewN (Below.refl ((w.setCell ⟨cb, 2, none⟩ (.slice (some ⟨g, off1 + 2, none⟩) q (cap - 1))).alloc (.cells #[.int .i64 (k : Int), .pointer (some ⟨ob, 0, none⟩)] 158)).heap.size ((w.setCell ⟨cb, 2, none⟩ (.slice (some ⟨g, off1 + 2, none⟩) q (cap - 1))).alloc (.cells #[.int .i64 (k : Int), .pointer (some ⟨ob, 0, none⟩)] 158))) n).drew
        exact (HZ.out.on hB).chosen HK.out (M.below HTk.out hB) htb htN
      have HY : Hid (∀ n : Nat, (((w.setCell ⟨cb, 2, none⟩ (.slice (some ⟨g, off1 + 2, none⟩) q (cap - 1))).alloc (.cells #[.int .i64 (k : Int), .pointer (some ⟨ob, 0, none⟩)] 158)).drewN n).cell? ⟨cb, 0, none⟩ = some (.slice (some ⟨tb, 0, none⟩) m m) ∧ (((w.setCell ⟨cb, 2, none⟩ (.slice (some ⟨g, off1 + 2, none⟩) q (cap - 1))).alloc (.cells #[.int .i64 (k : Int), .pointer (some ⟨ob, 0, none⟩)] 158)).drewN n).cell? ⟨w.heap.size, 0, none⟩ = some (.int .i64 (k : Int)) ∧ (((w.setCell ⟨cb, 2, none⟩ (.slice (some ⟨g, off1 + 2, none⟩) q (cap - 1))).alloc (.cells #[.int .i64 (k : Int), .pointer (some ⟨ob, 0, none⟩)] 158)).drewN n).cell? ⟨w.heap.size, 1, none⟩ = some (.pointer (some ⟨ob, 0, none⟩)) ∧ (((w.setCell ⟨cb, 2, none⟩ (.slice (some ⟨g, off1 + 2, none⟩) q (cap - 1))).alloc (.cells #[.int .i64 (k : Int), .pointer (some ⟨ob, 0, none⟩)] 158)).drewN n).cell? ⟨tb, k, none⟩ = some (.pointer none) ∧ (((w.setCell ⟨cb, 2, none⟩ (.slice (some ⟨g, off1 + 2, none⟩) q (cap - 1))).alloc (.cells #[.int .i64 (k : Int), .pointer (some ⟨ob, 0, none⟩)] 158)).drewN n).frozen? ⟨tb, k, none⟩ = false ∧ cb < (((w.setCell ⟨cb, 2, none⟩ (.slice (some ⟨g, off1 + 2, none⟩) q (cap - 1))).alloc (.cells #[.int .i64 (k : Int), .pointer (some ⟨ob, 0, none⟩)] 158)).drewN n).heap.size ∧ w.heap.size < (((w.setCell ⟨cb, 2, none⟩ (.slice (some ⟨g, off1 + 2, none⟩) q (cap - 1))).alloc (.cells #[.int .i64 (k : Int), .pointer (some ⟨ob, 0, none⟩)] 158)).drewN n).heap.size ∧ tb < (((w.setCell ⟨cb, 2, none⟩ (.slice (some ⟨g, off1 + 2, none⟩) q (cap - 1))).alloc (.cells #[.int .i64 (k : Int), .pointer (some ⟨ob, 0, none⟩)] 158)).drewN n).heap.size) := Lib.hid fun n => by
        have e0 := Blk.below HTB1.out.2 ((Below.refl _ _).alloc (Nat.le_refl _) (.cells #[.int .i64 (k : Int), .pointer (some ⟨ob, 0, none⟩)] 158)) HTB1.out.2.lt
        have e1 := Blk.below HTB1.out.1 ((Below.refl _ _).alloc (Nat.le_refl _) (.cells #[.int .i64 (k : Int), .pointer (some ⟨ob, 0, none⟩)] 158)) HTB1.out.1.lt
        exact ⟨e0.cell 0, HW0.out.cell 0, HW0.out.cell 1, (e1.cell k).trans hu, e1.frozen k, e0.lt, HW0.out.lt, e1.lt⟩
      clear y0 hu HZ HTk HW0 HTB1
      go_enter Tryz.func86, Tryz.ntmps86
      go_wp2
      go_quiet (fail)
      have HFn := Lib.hid (HFin.out nq)
      obtain ⟨f0, f1, f2, f3, f4, f5, f6, f7⟩ := HY.out nq
      obtain ⟨W3, hW3⟩ : ∃ W3, W3 = ((w.setCell ⟨cb, 2, none⟩ (.slice (some ⟨g, off1 + 2, none⟩) q (cap - 1))).alloc (.cells #[.int .i64 (k : Int), .pointer (some ⟨ob, 0, none⟩)] 158)).drewN nq := ⟨_, rfl⟩
      rw [← hW3] at HFn f0 f1 f2 f3 f4 f5 f6 f7 ⊢
      clear hW3 HFin HY y3 d0 d1 y1 y2 x0 x1 c0 c2 lc fc lg
      go_wp2
      refine wp_region_still_tail 9 (by kernel_rfl) (by kernel_rfl) ?_
      show wpStill _ _ (World.drew W3) _ _ _
      obtain ⟨V, hV⟩ : ∃ V, V = World.drew W3 := ⟨_, rfl⟩
      have HV := Lib.hid hV
      rw [← hV]
      have v0 : V.cell? ⟨cb, 0, none⟩ = some (.slice (some ⟨tb, 0, none⟩) m m) := by rw [hV]; exact f0
      have v1 : V.cell? ⟨w.heap.size, 0, none⟩ = some (.int .i64 (k : Int)) := by rw [hV]; exact f1
      have v2 : V.cell? ⟨w.heap.size, 1, none⟩ = some (.pointer (some ⟨ob, 0, none⟩)) := by rw [hV]; exact f2
      have v3 : V.cell? ⟨tb, k, none⟩ = some (.pointer none) := by rw [hV]; exact f3
      have v4 : V.frozen? ⟨tb, k, none⟩ = false := by rw [hV]; exact f4
      have v5 : cb < V.heap.size := by rw [hV]; exact f5
      have v6 : w.heap.size < V.heap.size := by rw [hV]; exact f6
      have v7 : tb < V.heap.size := by rw [hV]; exact f7
      rw [← hV] at HFn
      clear hV f0 f1 f2 f3 f4 f5 f6 f7
      simp only [List.take_succ_cons, List.take_zero, List.drop_succ_cons, List.drop_zero]
      repeat still_step
      refine wpStill_nil ?_
      show wpList _ _ _ _ _ (World.drew W3)
      rw [← HV.out]
      clear HV
      go_wp2
      go_end0
      exact ⟨rfl, HFn.out⟩
    · have y3 := y0 _ hu
      have hp : ∀ W : World, (binOp .eql 133 (.pointer (some ⟨b', 0, none⟩)) (.pointer none)).run Tryz.prog W = .ok (.bool false) W := fun W => by kernel_rfl
      have HFin : Hid (∀ n : Nat, ChS M N w0 cb tb B off c (chooseC ch (offA o)) l a (((w.setCell ⟨cb, 2, none⟩ (.slice (some ⟨g, off1 + 2, none⟩) q (cap - 1))).alloc (.cells #[.int .i64 (k : Int), .pointer (some ⟨ob, 0, none⟩)] 158)).drewN n)) := Lib.hid fun n => by
        rw [HCC.out, HG.out, Option.getD_some, ho, if_neg (by simp)]
        exact HZ.out.on (below_drewN (Below.refl ((w.setCell ⟨cb, 2, none⟩ (.slice (some ⟨g, off1 + 2, none⟩) q (cap - 1))).alloc (.cells #[.int .i64 (k : Int), .pointer (some ⟨ob, 0, none⟩)] 158)).heap.size ((w.setCell ⟨cb, 2, none⟩ (.slice (some ⟨g, off1 + 2, none⟩) q (cap - 1))).alloc (.cells #[.int .i64 (k : Int), .pointer (some ⟨ob, 0, none⟩)] 158))) n)
      clear y0 hu HZ HTk HW0 HTB1
      go_enter Tryz.func86, Tryz.ntmps86
      go_wp2
      go_quiet (fail)
      go_wp2
      go_end0
      exact ⟨rfl, HFin.out _⟩
end Go.Proofs.YtodnlcbnbkkanaaGreatDoor
end
section
namespace Go.Proofs.YtodnlcbnbkkanaaGreatDoor
open Go Go.RowKit

set_option maxRecDepth 100000 in
set_option maxHeartbeats 2000000 in
theorem Circular_any (g : GramM) (hf : FitG g) (w : World) (hg : GIn w g) : Calls Tryz.prog 16 #[gramV g] w (TellPost w g (CircP g)) := by
  have hB1 : Below w.heap.size w (w.alloc (.cells (gramC g) 27)) := (Below.refl _ _).alloc (Nat.le_refl _) _
  have HC := Lib.hid (answerB_any g hf 49 (fun _ _ => by kernel_rfl) (CircP g) _ (hg.below hB1) (fun h W hW => circular_any g (mayB_of h) hf.fit W hW))
  have HB := Lib.hid hB1
  clear hf hg hB1
  unfold gramV gramC at *
  go_enter Tryz.func16, Tryz.ntmps16
  go_wp2_with fail
  refine HC.out.mono ?_
  rintro e w3 ⟨hB3, ⟨hc, rfl⟩ | ⟨hc, M, B, hR, rfl, hBl, hk⟩⟩
  · have HB3 := Lib.hid (HB.out.trans (hB3.mono HB.out.size))
    have Hc := Lib.hid hc
    clear hB3 hc HC
    go_wp2
    go_ret2
    exact ⟨HB3.out, .inl ⟨Hc.out, rfl⟩⟩
  · have HB3 := Lib.hid (HB.out.trans (hB3.mono HB.out.size))
    have Hc := Lib.hid hc
    have HR := Lib.hid hR
    have HBl : Hid (w.heap.size ≤ B) := Lib.hid (Nat.le_trans HB.out.size hBl)
    have HK := Lib.hid hk
    clear hB3 hc HC hR hBl hk
    go_wp2
    go_ret2
    exact ⟨HB3.out, .inr ⟨Hc.out, M, B, HR.out, rfl, HBl.out, HK.out⟩⟩
end Go.Proofs.YtodnlcbnbkkanaaGreatDoor
end
section
namespace Go.Proofs.YtodnlcbnbkkanaaGreatDoor
open Go Go.RowKit

def LT (g : GramM) (k : Nat) (t : List UInt8) : Prop := TX g k t ∧ ∀ u, TX g k u → code t ≤ code u
theorem least_code {P : List UInt8 → Prop} (h : ∃ t, P t) : ∃ t, P t ∧ ∀ u, P u → code t ≤ code u := by
  have key : ∀ (n : Nat) (t : List UInt8), P t → code t ≤ n → ∃ t, P t ∧ ∀ u, P u → code t ≤ code u := by
    intro n
    induction n with
    | zero => intro t ht hn; exact ⟨t, ht, fun u _ => by omega⟩
    | succ n ih =>
      intro t ht hn
      by_cases hx : ∃ u, P u ∧ code u < code t
      · obtain ⟨u, hu, hl⟩ := hx
        exact ih u hu (by omega)
      · exact ⟨t, ht, fun u hu => Nat.not_lt.1 fun hl => hx ⟨u, hu, hl⟩⟩
  obtain ⟨t, ht⟩ := h
  exact key _ t ht (Nat.le_refl _)
theorem LT.exists {g : GramM} {k : Nat} {t : List UInt8} (h : TX g k t) : ∃ u, LT g k u := least_code ⟨t, h⟩
theorem LT.unique {g : GramM} {k : Nat} {t u : List UInt8} (h : LT g k t) (h' : LT g k u) : t = u := code_inj (Nat.le_antisymm (h.2 u h'.1) (h'.2 t h.1))
theorem code_len {s t : List UInt8} (h : code s ≤ code t) : s.length ≤ t.length := Nat.not_lt.1 fun hl => by have := code_shorter hl; omega
theorem LT.short {g : GramM} {k : Nat} {t u : List UInt8} (h : LT g k t) (hu : TX g k u) : t.length ≤ u.length := code_len (h.2 u hu)
theorem code_left (a b : List UInt8) : code a ≤ code (a ++ b) := by
  rw [code_append]
  have : 1 ≤ 256 ^ b.length := Nat.pow_pos (by omega)
  have := Nat.mul_le_mul_left (code a) this
  omega
theorem code_right (a b : List UInt8) : code b ≤ code (a ++ b) := by rw [code_append]; omega
theorem code_app_left {a a' : List UInt8} (b : List UInt8) (h : code (a ++ b) ≤ code (a' ++ b)) : code a ≤ code a' := by
  rw [code_append, code_append] at h
  have h1 : 0 < 256 ^ b.length := Nat.pow_pos (by omega)
  exact Nat.le_of_mul_le_mul_right (by omega) h1
theorem code_app_right (a : List UInt8) {b b' : List UInt8} (h : code (a ++ b) ≤ code (a ++ b')) : code b ≤ code b' := by
  refine Nat.not_lt.1 fun hl => ?_
  have h1 := code_len (Nat.le_of_lt hl)
  by_cases h2 : b'.length = b.length
  · rw [code_append, code_append, h2] at h
    omega
  · have := code_shorter (s := a ++ b') (t := a ++ b) (by simp; omega)
    omega

theorem leastB_min {s : BS} {b : Nat} (hb : b < 256) (h : s.getLsbD b = true) : s.getLsbD (leastB s) = true ∧ leastB s ≤ b := by
  have hm := (mem_bytesL s b).2 ⟨hb, h⟩
  unfold leastB
  cases hl : bytesL s with
  | nil => rw [hl] at hm; cases hm
  | cons x r =>
    have hx := ((mem_bytesL s x).1 (by rw [hl]; simp)).2
    refine ⟨hx, ?_⟩
    have hsort : (bytesL s).Pairwise (· < ·) := by
      unfold bytesL
      exact List.Pairwise.filter _ (List.pairwise_lt_range' ..)
    rw [hl] at hm hsort
    rcases List.mem_cons.1 hm with rfl | hm
    · exact Nat.le_refl _
    · exact Nat.le_of_lt ((List.pairwise_cons.1 hsort).1 b hm)
theorem code_one (b : UInt8) : code [b] = b.toNat + 1 := by simp [code]

def LTs (T : Nat → List UInt8 → Prop) : List SymM → List UInt8 → Prop
  | [], t => t = []
  | s :: r, t => ∃ a b, t = a ++ b ∧ ((s.kind = 1 ∧ T s.sort.toNat a) ∨ (s.kind ≠ 1 ∧ a = [UInt8.ofNat (leastB s.set)])) ∧ LTs T r b
theorem txs_least {g : GramM} {P : Nat → List UInt8 → Prop} : ∀ {l : List SymM} {v : List UInt8}, TXs (fun k t => TX g k t ∧ P k t) l v → (∀ w, TXs (TX g) l w → code v ≤ code w) → LTs (fun k t => LT g k t ∧ P k t) l v := by
  intro l
  induction l with
  | nil => intro v h _; exact h
  | cons s r ih =>
    rintro v ⟨a, b, rfl, h1, h2⟩ hmin
    have h2' : TXs (TX g) r b := h2.imp fun _ _ _ _ h => h.1
    have hA : ∀ a', SymT (TX g) s a' → code a ≤ code a' := fun a' ha => code_app_left b (hmin _ ⟨a', b, rfl, ha, h2'⟩)
    have h1' : SymT (TX g) s a := h1.imp fun _ _ h => h.1
    refine ⟨a, b, rfl, ?_, ih h2 fun w hw => code_app_right a (hmin _ ⟨a, w, rfl, h1', hw⟩)⟩
    rcases h1 with ⟨hk, h1⟩ | ⟨hk, c, rfl, hc⟩
    · exact .inl ⟨hk, ⟨h1.1, fun u hu => hA u (.inl ⟨hk, hu⟩)⟩, h1.2⟩
    · refine .inr ⟨hk, ?_⟩
      obtain ⟨m1, m2⟩ := leastB_min c.toNat_lt hc
      have hlt := leastB_lt s.set
      have e : (UInt8.ofNat (leastB s.set)).toNat = leastB s.set := by rw [UInt8.toNat_ofNat', Nat.mod_eq_of_lt (by omega)]
      have h3 := hA [UInt8.ofNat (leastB s.set)] (.inr ⟨hk, _, rfl, by rw [e]; exact m1⟩)
      rw [code_one, code_one, e] at h3
      have : c.toNat = (UInt8.ofNat (leastB s.set)).toNat := by rw [e]; omega
      rw [UInt8.toNat_inj.1 this]
theorem LTs.parts {ch : List (Option (List UInt8))} : ∀ {l : List SymM} {v : List UInt8}, LTs (fun k t => ch[k]? = some (some t)) l v → (partsT ch l).flatten = v ∧ l.any (waitsQ ch) = false := by
  intro l
  induction l with
  | nil => intro v h; exact ⟨h.symm, rfl⟩
  | cons s r ih =>
    rintro v ⟨a, b, rfl, h1, h2⟩
    obtain ⟨e1, e2⟩ := ih h2
    have e1' : (List.map (partT ch) r).flatten = b := e1
    rcases h1 with ⟨hk, h1⟩ | ⟨hk, rfl⟩
    · refine ⟨?_, ?_⟩
      · unfold partsT
        rw [List.map_cons, List.flatten_cons, e1', show partT ch s = a by unfold partT; rw [if_pos hk, h1]; rfl]
      · rw [List.any_cons, e2, show waitsQ ch s = false by unfold waitsQ; rw [hk, h1]; rfl]; rfl
    · refine ⟨?_, ?_⟩
      · unfold partsT
        rw [List.map_cons, List.flatten_cons, e1', show partT ch s = [UInt8.ofNat (leastB s.set)] by unfold partT; rw [if_neg hk]]
      · have : (s.kind == 1) = false := by simpa using hk
        rw [List.any_cons, e2, show waitsQ ch s = false by unfold waitsQ; rw [this]; rfl]; rfl
theorem LTs.or {T U : Nat → List UInt8 → Prop} {Q : Prop} : ∀ {l : List SymM} {v : List UInt8}, LTs T l v → (∀ k t, T k t → code t ≤ code v → U k t ∨ Q) → LTs U l v ∨ Q := by
  have key : ∀ {l : List SymM} {v : List UInt8} (n : Nat), code v ≤ n → LTs T l v → (∀ k t, T k t → code t ≤ n → U k t ∨ Q) → LTs U l v ∨ Q := by
    intro l
    induction l with
    | nil => intro v n _ h _; exact .inl h
    | cons s r ih =>
      rintro v n hn ⟨a, b, rfl, h1, h2⟩ H
      have ha := code_left a b
      have hb := code_right a b
      rcases ih n (by omega) h2 H with h2' | hq
      · rcases h1 with ⟨hk, h1⟩ | h1
        · rcases H _ _ h1 (by omega) with h3 | hq
          · exact .inl ⟨a, b, rfl, .inl ⟨hk, h3⟩, h2'⟩
          · exact .inr hq
        · exact .inl ⟨a, b, rfl, .inr h1, h2'⟩
      · exact .inr hq
  intro l v h H
  exact key (code v) (Nat.le_refl _) h H

structure Knu (g : GramM) (S : Nat) (W : List ProdM) (ch : List (Option (List UInt8))) (l : List ProdM) (a : List (Nat × List UInt8)) : Prop where
  /-- What is chosen is the least. -/
  best : ∀ (k : Nat) (t : List UInt8), ch[k]? = some (some t) → LT g k t
  /-- An offer is a text of its sort. -/
  text : ∀ x, x ∈ a → TX g x.1 x.2 ∧ x.2.length ≤ S ∧ x.1 < ch.length
  /-- Each production waits, or its text is among the offers, or its sort's is chosen. -/
  all : ∀ p, p ∈ W → p ∈ l ∨ (p.right.any (waitsQ ch) = false ∧ (p.left.toNat, (partsT ch p.right).flatten) ∈ a) ∨ ∃ t, ch[p.left.toNat]? = some (some t)
  /-- What waits is of those that it began with. -/
  sub : ∀ p, p ∈ l → p ∈ W
def Begun (g : GramM) (S : Nat) (W : List ProdM) : Prop := ∀ p t, p ∈ g.prods → treeP p → TXs (TX g) p.right t → LT g p.left.toNat t → t.length ≤ S → p ∈ W

theorem Knu.offer {g : GramM} {S : Nat} {W : List ProdM} {ch : List (Option (List UInt8))} {l : List ProdM} {a : List (Nat × List UInt8)} (h : Knu g S W ch l a) (hW : Begun g S W) (hl : ∀ p, p ∈ l → p.right.any (waitsQ ch) = true) {k : Nat} {t : List UInt8} (ht : LT g k t) (hS : t.length ≤ S) :
    ch[k]? = some (some t) ∨ ∃ x, x ∈ a ∧ code x.2 ≤ code t := by
  have key : TX g k t ∧ (LT g k t → t.length ≤ S → ch[k]? = some (some t) ∨ ∃ x, x ∈ a ∧ code x.2 ≤ code t) := by
    refine TX.ind (P := fun k t => TX g k t ∧ (LT g k t → t.length ≤ S → ch[k]? = some (some t) ∨ ∃ x, x ∈ a ∧ code x.2 ≤ code t)) (fun p v hp hr h1 h2 => ⟨TX.mk hp hr h1, fun hL hS => ?_⟩) ht.1
    have h3 := txs_least h2 (fun w hw => hL.2 w (TX.mk hp hr hw))
    rcases h3.or (U := fun k t => ch[k]? = some (some t)) (Q := ∃ x, x ∈ a ∧ code x.2 ≤ code v) (fun k t hkt hc => by
      rcases hkt.2 hkt.1 (Nat.le_trans (code_len hc) hS) with h | ⟨x, hx, hxc⟩
      · exact .inl h
      · exact .inr ⟨x, hx, by omega⟩) with h4 | h4
    · obtain ⟨e1, e2⟩ := h4.parts
      rcases h.all p (hW p v hp hr h1 hL hS) with h5 | ⟨_, h5⟩ | ⟨t', h5⟩
      · have := hl p h5
        rw [e2] at this
        cases this
      · rw [e1] at h5
        exact .inr ⟨_, h5, Nat.le_refl _⟩
      · have := (h.best _ _ h5).unique hL
        rw [this] at h5
        exact .inl h5
    · exact .inr h4
  exact key.2 ht hS
theorem Knu.more {g : GramM} {S : Nat} {W : List ProdM} {ch : List (Option (List UInt8))} {l : List ProdM} {a : List (Nat × List UInt8)} (h : Knu g S W ch l a) (hW : Begun g S W) (hl : ∀ p, p ∈ l → p.right.any (waitsQ ch) = true) {k : Nat} {t : List UInt8} (ht : LT g k t) (hS : t.length ≤ S) (hk : ch[k]? = Option.some none) : a ≠ [] := by
  rcases h.offer hW hl ht hS with h1 | ⟨x, hx, _⟩
  · rw [hk] at h1; cases h1
  · exact List.ne_nil_of_mem hx

theorem ready_txs {g : GramM} {ch : List (Option (List UInt8))} (hb : ∀ (k : Nat) (t : List UInt8), ch[k]? = Option.some (Option.some t) → LT g k t) : ∀ {l : List SymM}, (∀ s, s ∈ l → s.kind = 1 → ∃ k : Nat, s.sort = k ∧ k < ch.length) → l.any (waitsQ ch) = false → LTs (LT g) l (partsT ch l).flatten := by
  intro l
  induction l with
  | nil => intro _ _; rfl
  | cons s r ih =>
    intro hs h
    rw [List.any_cons, Bool.or_eq_false_iff] at h
    refine ⟨partT ch s, (partsT ch r).flatten, by unfold partsT; rw [List.map_cons, List.flatten_cons], ?_, ih (fun x hx => hs x (by simp [hx])) h.2⟩
    by_cases hk : s.kind = 1
    · obtain ⟨k, h1, h2⟩ := hs s (by simp) hk
      have hw := h.1
      unfold waitsQ at hw
      rw [hk, h1, Int.toNat_natCast, List.getElem?_eq_getElem h2] at hw
      cases hc : ch[k] with
      | none => rw [hc] at hw; simp at hw
      | some t =>
        have hg : ch[k]? = Option.some (Option.some t) := by rw [List.getElem?_eq_getElem h2, hc]
        refine .inl ⟨hk, ?_⟩
        rw [h1, Int.toNat_natCast, show partT ch s = t by unfold partT; rw [if_pos hk, h1, Int.toNat_natCast, hg]; rfl]
        exact hb k t hg
    · exact .inr ⟨hk, by unfold partT; rw [if_neg hk]⟩
theorem LTs.tx {g : GramM} (hset : ∀ s : SymM, True) : ∀ {l : List SymM} {v : List UInt8}, LTs (LT g) l v → (∀ s, s ∈ l → s.kind ≠ 1 → s.set ≠ 0#256) → TXs (TX g) l v := by
  intro l
  induction l with
  | nil => intro v h _; exact h
  | cons s r ih =>
    rintro v ⟨a, b, rfl, h1, h2⟩ hs
    refine ⟨a, b, rfl, ?_, ih h2 fun x hx => hs x (by simp [hx])⟩
    rcases h1 with ⟨hk, h1⟩ | ⟨hk, rfl⟩
    · exact .inl ⟨hk, h1.1⟩
    · obtain ⟨c, hc⟩ := bv_bit (hs s (by simp) hk)
      have hlt := leastB_lt s.set
      refine .inr ⟨hk, _, rfl, ?_⟩
      rw [UInt8.toNat_ofNat', Nat.mod_eq_of_lt (by omega)]
      exact (leastB_min c.toNat_lt hc).1

theorem insA_mem {s : List (Nat × List UInt8)} {x y : Nat × List UInt8} : y ∈ insA s x ↔ y = x ∨ y ∈ s := by
  unfold insA
  have e : y ∈ s ↔ y ∈ s.take (placeA s x.2) ∨ y ∈ s.drop (placeA s x.2) := by
    rw [← List.mem_append, List.take_append_drop]
  rw [List.mem_append, List.mem_cons, e]
  constructor
  · rintro (h | h | h)
    · exact .inr (.inl h)
    · exact .inl h
    · exact .inr (.inr h)
  · rintro (h | h | h)
    · exact .inr (.inl h)
    · exact .inl h
    · exact .inr (.inr h)
theorem gather_mem (ch : List (Option (List UInt8))) : ∀ (l : List ProdM) (a : List (Nat × List UInt8)) (y : Nat × List UInt8), y ∈ l.foldl (gatherA ch) a ↔ y ∈ a ∨ ∃ p, p ∈ l ∧ p.right.any (waitsQ ch) = false ∧ y = (p.left.toNat, (partsT ch p.right).flatten)
  | [], a, y => by simp
  | p :: l, a, y => by
    rw [List.foldl_cons, gather_mem ch l]
    unfold gatherA
    by_cases h : p.right.any (waitsQ ch) = true
    · rw [if_pos h]
      constructor
      · rintro (h1 | ⟨q, h1, h2⟩)
        · exact .inl h1
        · exact .inr ⟨q, by simp [h1], h2⟩
      · rintro (h1 | ⟨q, h1, h2, h3⟩)
        · exact .inl h1
        · rcases List.mem_cons.1 h1 with rfl | h1
          · rw [h] at h2; cases h2
          · exact .inr ⟨q, h1, h2, h3⟩
    · have h' : p.right.any (waitsQ ch) = false := by simpa using h
      rw [if_neg h, insA_mem]
      constructor
      · rintro ((h1 | h1) | ⟨q, h1, h2⟩)
        · exact .inr ⟨p, by simp, h', h1⟩
        · exact .inl h1
        · exact .inr ⟨q, by simp [h1], h2⟩
      · rintro (h1 | ⟨q, h1, h2, h3⟩)
        · exact .inl (.inr h1)
        · rcases List.mem_cons.1 h1 with rfl | h1
          · exact .inl (.inl h3)
          · exact .inr ⟨q, h1, h2, h3⟩

structure BegunOK (g : GramM) (S n : Nat) (W : List ProdM) : Prop where
  mem : ∀ p, p ∈ W → p ∈ g.prods ∧ treeP p ∧ p.left.toNat < n
  sorts : ∀ p, p ∈ W → ∀ s, s ∈ p.right → s.kind = 1 → ∃ k : Nat, s.sort = k ∧ k < n
  sets : ∀ p, p ∈ W → ∀ s, s ∈ p.right → s.kind ≠ 1 → s.set ≠ 0#256
  len : ∀ p, p ∈ W → ∀ v, LTs (LT g) p.right v → v.length ≤ S

theorem Knu.gather {g : GramM} {S : Nat} {W : List ProdM} {ch : List (Option (List UInt8))} {l : List ProdM} {a : List (Nat × List UInt8)} (h : Knu g S W ch l a) (hok : BegunOK g S ch.length W) : Knu g S W ch (l.filter fun x => x.right.any (waitsQ ch)) (l.foldl (gatherA ch) a) where
  best := h.best
  text := fun x hx => by
    rcases (gather_mem ch l a x).1 hx with h1 | ⟨p, h1, h2, rfl⟩
    · exact h.text x h1
    · have hp := h.sub p h1
      have h3 := ready_txs h.best (hok.sorts p hp) h2
      obtain ⟨m1, m2, m3⟩ := hok.mem p hp
      exact ⟨TX.mk m1 m2 (h3.tx (fun _ => trivial) (hok.sets p hp)), hok.len p hp _ h3, m3⟩
  all := fun p hp => by
    rcases h.all p hp with h1 | ⟨h1, h2⟩ | h1
    · cases hr : p.right.any (waitsQ ch) with
      | true => exact .inl (List.mem_filter.2 ⟨h1, hr⟩)
      | false => exact .inr (.inl ⟨rfl, (gather_mem ch l a _).2 (.inr ⟨p, h1, hr, rfl⟩)⟩)
    · exact .inr (.inl ⟨h1, (gather_mem ch l a _).2 (.inl h2)⟩)
    · exact .inr (.inr h1)
  sub := fun p hp => h.sub p (List.mem_filter.1 hp).1
end Go.Proofs.YtodnlcbnbkkanaaGreatDoor
end
section
namespace Go.Proofs.YtodnlcbnbkkanaaGreatDoor
open Go Go.RowKit

theorem sym_same {ch : List (Option (List UInt8))} {k : Nat} {o : Option (List UInt8)} {s : SymM} (h : waitsQ ch s = false) (hk : ch[k]? = some none) : partT (ch.set k o) s = partT ch s ∧ waitsQ (ch.set k o) s = false := by
  by_cases hs : s.kind = 1
  · have hne : k ≠ s.sort.toNat := by
      rintro rfl
      unfold waitsQ at h
      rw [hs, hk] at h
      simp at h
    unfold partT waitsQ at *
    rw [List.getElem?_set_ne hne]
    exact ⟨rfl, h⟩
  · have hs' : (s.kind == 1) = false := by simpa using hs
    unfold partT waitsQ
    rw [if_neg hs, if_neg hs, hs']
    exact ⟨rfl, rfl⟩
theorem ready_same {ch : List (Option (List UInt8))} {k : Nat} {o : Option (List UInt8)} (hk : ch[k]? = some none) : ∀ {l : List SymM}, l.any (waitsQ ch) = false → partsT (ch.set k o) l = partsT ch l ∧ l.any (waitsQ (ch.set k o)) = false := by
  intro l
  induction l with
  | nil => intro _; exact ⟨rfl, rfl⟩
  | cons s r ih =>
    intro h
    rw [List.any_cons, Bool.or_eq_false_iff] at h
    obtain ⟨e1, e2⟩ := ih h.2
    obtain ⟨f1, f2⟩ := sym_same (o := o) h.1 hk
    refine ⟨?_, by rw [List.any_cons, f2, e2]; rfl⟩
    unfold partsT at *
    rw [List.map_cons, List.map_cons, f1, e1]

theorem Knu.choose {g : GramM} {S : Nat} {W : List ProdM} {ch : List (Option (List UInt8))} {l : List ProdM} {x : Nat × List UInt8} {a : List (Nat × List UInt8)} (h : Knu g S W ch l (x :: a)) (hW : Begun g S W) (hl : ∀ p, p ∈ l → p.right.any (waitsQ ch) = true) (hs : SortedA (x :: a)) : Knu g S W (chooseC ch x) l a := by
  obtain ⟨hx1, hx2, hx3⟩ := h.text x (by simp)
  have hget : ch[x.1]? = some ch[x.1] := List.getElem?_eq_getElem hx3
  cases hc : ch[x.1] with
  | some t0 =>
    rw [hc] at hget
    have e : chooseC ch x = ch := by unfold chooseC; rw [hget]; rfl
    rw [e]
    refine ⟨h.best, fun y hy => h.text y (by simp [hy]), fun p hp => ?_, h.sub⟩
    rcases h.all p hp with h1 | ⟨h1, h2⟩ | h1
    · exact .inl h1
    · rcases List.mem_cons.1 h2 with rfl | h2
      · exact .inr (.inr ⟨t0, hget⟩)
      · exact .inr (.inl ⟨h1, h2⟩)
    · exact .inr (.inr h1)
  | none =>
    rw [hc] at hget
    have e : chooseC ch x = ch.set x.1 (some x.2) := by unfold chooseC; rw [hget]; rfl
    rw [e]
    have hLT : LT g x.1 x.2 := by
      obtain ⟨u, hu⟩ := LT.exists hx1
      have hlen := hu.short hx1
      rcases h.offer hW hl hu (by omega) with h1 | ⟨y, hy, hyc⟩
      · rw [hget] at h1; cases h1
      · obtain ⟨j, hj⟩ := List.mem_iff_getElem?.1 hy
        have h2 := hs 0 j x y (Nat.zero_le _) rfl hj
        have h3 := hu.2 x.2 hx1
        have h4 : u = x.2 := code_inj (by omega)
        rw [← h4]
        exact hu
    have hself : (ch.set x.1 (some x.2))[x.1]? = some (some x.2) := List.getElem?_set_self hx3
    refine ⟨fun k t hk => ?_, fun y hy => ?_, fun p hp => ?_, h.sub⟩
    · by_cases hkx : x.1 = k
      · subst hkx
        rw [hself] at hk
        cases hk
        exact hLT
      · rw [List.getElem?_set_ne hkx] at hk
        exact h.best k t hk
    · obtain ⟨y1, y2, y3⟩ := h.text y (by simp [hy])
      exact ⟨y1, y2, by rw [List.length_set]; exact y3⟩
    · rcases h.all p hp with h1 | ⟨h1, h2⟩ | ⟨t, h1⟩
      · exact .inl h1
      · obtain ⟨e1, e2⟩ := ready_same (o := some x.2) hget h1
        rcases List.mem_cons.1 h2 with h3 | h3
        · refine .inr (.inr ⟨x.2, ?_⟩)
          rw [← h3] at hself ⊢
          exact hself
        · exact .inr (.inl ⟨e2, by rw [e1]; exact h3⟩)
      · refine .inr (.inr ?_)
        by_cases hkx : x.1 = p.left.toNat
        · exact ⟨x.2, by rw [← hkx]; exact hself⟩
        · exact ⟨t, by rw [List.getElem?_set_ne hkx]; exact h1⟩

theorem gather_count (ch : List (Option (List UInt8))) : ∀ (l : List ProdM) (a : List (Nat × List UInt8)), (l.filter fun x => x.right.any (waitsQ ch)).length + (l.foldl (gatherA ch) a).length = l.length + a.length
  | [], a => by simp
  | p :: l, a => by
    rw [List.foldl_cons, List.filter_cons]
    have ih := gather_count ch l (gatherA ch a p)
    unfold gatherA at *
    by_cases h : p.right.any (waitsQ ch) = true
    · rw [if_pos h] at ih ⊢
      rw [if_pos h]
      simp only [List.length_cons]
      omega
    · rw [if_neg h] at ih ⊢
      rw [if_neg h]
      have hi : (insA a (p.left.toNat, (partsT ch p.right).flatten)).length = a.length + 1 := by
        unfold insA
        have : placeA a (partsT ch p.right).flatten ≤ a.length := List.countP_le_length
        simp only [List.length_append, List.length_cons, List.length_take, List.length_drop]
        omega
      rw [hi] at ih
      simp only [List.length_cons]
      omega
end Go.Proofs.YtodnlcbnbkkanaaGreatDoor
end
section
namespace Go.Proofs.YtodnlcbnbkkanaaGreatDoor
open Go Go.RowKit

theorem ShortP.sound {g : GramM} {S : List Int} (h : ShortP g S) : SoundN g S := fun k n hk => by
  rcases h.2 k n hk with ⟨h1, _⟩ | ⟨t, h1, h2, _⟩
  · exact .inl h1
  · exact .inr ⟨t, h1, h2⟩
theorem ShortP.gi {g : GramM} {S : List Int} (h : ShortP g S) {k : Nat} (hk : k < g.sorts.length) {t : List UInt8} (ht : LT g k t) : gi S k = min (t.length : Int) 1048577 := by
  obtain ⟨m, hget⟩ : ∃ m, S[k]? = some m := ⟨_, List.getElem?_eq_getElem (by rw [h.1]; exact hk)⟩
  have hg : YtodnlcbnbkkanaaGreatDoor.gi S k = m := gi_some (by rw [Int.toNat_natCast]; exact hget)
  rw [hg]
  rcases h.2 k _ hget with ⟨_, h2⟩ | ⟨u, h1, h2, h3⟩
  · exact absurd ht.1 (h2 t)
  · have a1 := ht.short h1
    have a2 := h3 t ht.1
    omega
theorem LTs.short {g : GramM} : ∀ {l : List SymM} {v u : List UInt8}, LTs (LT g) l v → TXs (TX g) l u → v.length ≤ u.length := by
  intro l
  induction l with
  | nil => intro v u h k; cases h; cases k; exact Nat.le_refl _
  | cons s r ih =>
    rintro v u ⟨a, b, rfl, h1, h2⟩ ⟨c, d, rfl, k1, k2⟩
    have hb := ih h2 k2
    have ha : a.length ≤ c.length := by
      rcases h1 with ⟨hk, h1⟩ | ⟨hk, rfl⟩
      · rcases k1 with ⟨_, k1⟩ | ⟨hk', _⟩
        · exact h1.short k1
        · exact absurd hk hk'
      · rcases k1 with ⟨hk', _⟩ | ⟨_, e, rfl, _⟩
        · exact absurd hk' hk
        · exact Nat.le_refl _
    rw [List.length_append, List.length_append]
    omega

def sampQ (S : List Int) (k : Nat) (p : ProdM) : Bool := decide (sumA S p.right 0 = gi S p.left) && decide (sumA S p.right 0 ≤ gi S k)
def sampW (g : GramM) (L : List Bool) (S : List Int) (k : Nat) : List ProdM := (livL g L).filter (sampQ S k)

theorem sampW_ok {g : GramM} (hm : MayB g) (hs : MaySet g) {L : List Bool} {S : List Int} (hS : ShortP g S) {k n : Nat} (hk : gi S k = n) (hn : n ≤ 1048576) : BegunOK g n g.sorts.length (sampW g L S k) := by
  have hin : ∀ p, p ∈ sampW g L S k → p ∈ g.prods ∧ treeP p ∧ sumA S p.right 0 = gi S p.left ∧ sumA S p.right 0 ≤ gi S k := fun p hp => by
    unfold sampW sampQ at hp
    obtain ⟨h1, h2⟩ := List.mem_filter.1 hp
    rw [Bool.and_eq_true, decide_eq_true_eq, decide_eq_true_eq] at h2
    obtain ⟨h3, h4, _⟩ := livL_mem.1 h1
    exact ⟨h3, h4, h2.1, h2.2⟩
  refine ⟨fun p hp => ?_, fun p hp => hm.sym p (hin p hp).1, fun p hp s hsx hkk => (hs.set p (hin p hp).1 s hsx hkk).2, fun p hp v hv => ?_⟩
  · obtain ⟨h1, h2, _⟩ := hin p hp
    obtain ⟨kk, h3, h4⟩ := hm.left p h1
    exact ⟨h1, h2, by rw [h3, Int.toNat_natCast]; exact h4⟩
  · obtain ⟨h1, h2, h3, h4⟩ := hin p hp
    have hset := fun s hsx hkk => (hs.set p h1 s hsx hkk).2
    have hv2 := hv.tx (fun _ => trivial) hset
    obtain ⟨t, ht⟩ := LT.exists (TX.mk h1 h2 hv2)
    obtain ⟨kk, e1, e2⟩ := hm.left p h1
    have hgi := hS.gi (k := p.left.toNat) (by rw [e1, Int.toNat_natCast]; exact e2) ht
    rw [e1, Int.toNat_natCast] at hgi
    rw [e1] at h3
    obtain ⟨u, hu1, hu2⟩ := sum_text hs hS.sound (l := p.right) (n := 0) hset (by omega) (by omega)
    have := hv.short hu1
    omega

theorem txs_syms {g : GramM} : ∀ {l : List SymM} {t : List UInt8}, TXs (TX g) l t → ∀ s, s ∈ l → s.kind = 1 → ∃ u, TX g s.sort.toNat u := by
  intro l
  induction l with
  | nil => intro t _ s hs; cases hs
  | cons x r ih =>
    rintro t ⟨a, b, rfl, h1, h2⟩ s hs hk
    rcases List.mem_cons.1 hs with rfl | hs
    · rcases h1 with ⟨_, h1⟩ | ⟨h1, _⟩
      · exact ⟨a, h1⟩
      · exact absurd hk h1
    · exact ih h2 s hs hk
theorem sampW_begun {g : GramM} (hm : MayB g) (hs : MaySet g) {L : List Bool} (hL : Live g L) {S : List Int} (hS : ShortP g S) {k n : Nat} (hk : gi S k = n) (hn : n ≤ 1048576) : Begun g n (sampW g L S k) := fun p t hp hr ht hLT hlen => by
  obtain ⟨kk, e1, e2⟩ := hm.left p hp
  have hset := fun s hsx hkk => (hs.set p hp s hsx hkk).2
  have hgi := hS.gi (k := p.left.toNat) (by rw [e1, Int.toNat_natCast]; exact e2) hLT
  rw [e1, Int.toNat_natCast] at hgi
  have hlow : ∀ (j : Nat) (u : List UInt8), TX g j u → j < g.sorts.length → 0 ≤ gi S j ∧ gi S j ≤ min (u.length : Int) 1048577 := fun j u hu hj => by
    obtain ⟨v, hv⟩ := LT.exists hu
    rw [hS.gi hj hv]
    have := hv.short hu
    omega
  have hsum := text_sum (S := S) (l := p.right) (t := t) (n := 0) (ht.imp fun s hsx hkk u hu => by
    obtain ⟨j, f1, f2⟩ := hm.sym p hp s hsx hkk
    have := hlow s.sort.toNat u hu (by rw [f1, Int.toNat_natCast]; exact f2)
    exact this) (fun s hsx hkk => by obtain ⟨j, f1, _⟩ := hm.sym p hp s hsx hkk; omega) (by omega) (by omega)
  obtain ⟨u, hu1, hu2⟩ := sum_text hs hS.sound (l := p.right) (n := 0) hset (by omega) hsum.1
  have hsh := hLT.short (TX.mk hp hr hu1)
  unfold sampW sampQ
  refine List.mem_filter.2 ⟨livL_mem.2 ⟨hp, hr, ?_⟩, ?_⟩
  · rw [List.any_eq_false]
    intro s hsx
    unfold lacksQ
    by_cases hkk : s.kind = 1
    · obtain ⟨v, hv⟩ := txs_syms ht s hsx hkk
      have hpv := (hL.2 _).2 ((pv_iff hs).2 ⟨v, hv⟩)
      have : lv L s.sort = true := by
        unfold lv
        rw [List.getD_eq_getElem?_getD, hpv]
        rfl
      rw [this]
      simp
    · have : (s.kind == 1) = false := by simpa using hkk
      rw [this]
      simp
  · rw [Bool.and_eq_true, decide_eq_true_eq, decide_eq_true_eq, e1, hk, hgi]
    omega
theorem Knu.begin {g : GramM} {n : Nat} {W : List ProdM} (m : Nat) : Knu g n W (List.replicate m none) W [] where
  best := fun k t h => by
    rw [List.getElem?_replicate] at h
    split at h <;> simp at h
  text := fun x hx => by cases hx
  all := fun p hp => .inl hp
  sub := fun p hp => hp
end Go.Proofs.YtodnlcbnbkkanaaGreatDoor
end
section
namespace Go.Proofs.YtodnlcbnbkkanaaGreatDoor
open Go Go.RowKit

theorem make_ptrs (n : Nat) (hn : n ≤ 1000) (w : World) : (Instr.makeSlice 129 (.int .i64 (n : Int)) (.int .i64 (n : Int))).run Tryz.prog w = .ok (.slice (some ⟨w.heap.size, 0, none⟩) n n) (w.alloc (.cells (Array.replicate n (.pointer none)) 133)) := by
  obtain ⟨i0, hi, hz0, hz1, hz2⟩ := info_parts Tryz.info129e
  have e : Array.replicate n (Value.pointer none) = madeCells #[.pointer none] n := by
    unfold madeCells
    apply Array.ext'
    simp [Nat.mod_one, List.map_const']
  rw [e]
  exact run_make_row 129 133 i0 (.pointer none) Tryz.underlying129 hi hz0 hz1 rfl .i64 .i64 n (by rw [hz2]; omega) (by omega) w
theorem texts_none (T : World → Nat → List UInt8 → Prop) (W : World) (tb n : Nat) (h : Blk W tb 133 (Array.replicate n (.pointer none))) : TextsAt T W tb (List.replicate n none) := by
  refine ⟨_, h, by simp, fun i o ho => .inl ?_⟩
  rw [List.getElem?_replicate] at ho
  split at ho
  · cases ho
    refine ⟨rfl, ?_⟩
    rw [Array.getElem?_replicate, if_pos (by assumption)]
  · cases ho
structure SampL (w : World) (tb cb B : Nat) (n : Nat) (base : Nat) (cs : Array Value) (l : List ProdM) (v : Value) (W : World) : Prop where
  below : Below w.heap.size w W
  blk : Blk W cb 132 #[.slice (some ⟨tb, 0, none⟩) n n, v, .slice none 0 0]
  txt : Blk W tb 133 (Array.replicate n (.pointer none))
  row : Blk W B 65 cs
  own : W.ownsRow base 65 7 v l.length (cellsL prodC l)
  high : base ≤ W.heap.size
theorem SampL.on {w : World} {tb cb B n base : Nat} {cs : Array Value} {l : List ProdM} {v : Value} {W V : World} (h : SampL w tb cb B n base cs l v W) (hB : Below W.heap.size W V) : SampL w tb cb B n base cs l v V :=
  ⟨h.below.trans (hB.mono h.below.size), h.blk.below hB h.blk.lt, h.txt.below hB h.txt.lt, h.row.below hB h.row.lt, own_below h.own hB (Nat.le_refl _), Nat.le_trans h.high hB.size⟩
theorem info65 : (Tryz.prog.info? 65).map (fun i => (i.zero, i.size, i.bytes)) = some (some (.agg #[.int .i64 0, .slice none 0 0, .string ⟨#[]⟩, .int .i64 0, .bool false, .bool false, .int .i64 0]), 7, 72) := by kernel_rfl
theorem prod_one (x : ProdM) : ∀ u ∈ (prodC x).toList, u.oneCell' = true := fun u hu => by
  unfold prodC at hu
  simp at hu
  rcases hu with rfl | rfl | rfl | rfl | rfl | rfl | rfl <;> rfl
theorem SampL.ownNe {w : World} {tb cb B n base : Nat} {cs : Array Value} {l : List ProdM} {v : Value} {W : World} (h : SampL w tb cb B n base cs l v W) {b : Nat} (hb : b < base) : some b ≠ v.ownBlock := by
  rcases h.own.2 with ⟨rfl, _⟩ | ⟨g, cap, cur, rfl, h1, _⟩
  · simp [Value.ownBlock]
  · simp only [Value.ownBlock, ne_eq, Option.some.injEq]
    rintro rfl
    omega
theorem SampL.push {w : World} {tb cb B n base : Nat} {cs : Array Value} {l : List ProdM} {v : Value} {W W6 : World} {G cap : Nat} {x : ProdM} (h : SampL w tb cb B n base cs l v W)
    (own6 : W6.ownsRow base 65 7 (.slice (some ⟨G, 0, none⟩) (l.length + 1) cap) (l.length + 1) (cellsL prodC l ++ (prodC x).toList)) (hg : W.grownBy W6 v.ownBlock)
    (hcb : cb < base) (htb : tb < base) (hB : B < base) (hne : tb ≠ cb) (hne2 : B ≠ cb) (hw : w.heap.size ≤ cb) :
    SampL w tb cb B n base cs (l ++ [x]) (.slice (some ⟨G, 0, none⟩) (l ++ [x]).length cap) (W6.setCell ⟨cb, 1, none⟩ (.slice (some ⟨G, 0, none⟩) (l.length + 1) cap)) := by
  refine ⟨?_, ?_, ?_, ?_, ?_, ?_⟩
  · refine (h.below.grown hg h.below.size fun j e => ?_).setCell (p := ⟨cb, 1, none⟩) hw _
    rcases h.own.2 with ⟨rfl, _⟩ | ⟨g, cap', cur, rfl, h1, _⟩
    · simp [Value.ownBlock] at e
    · simp [Value.ownBlock] at e; omega
  · have := (h.blk.kept hg (h.ownNe hcb)).set 1 (.slice (some ⟨G, 0, none⟩) (l.length + 1) cap)
    rw [List.length_append]
    exact this
  · exact (h.txt.kept hg (h.ownNe htb)).other hne _
  · exact (h.row.kept hg (h.ownNe hB)).other hne2 _
  · rw [List.length_append, cellsL_snoc]
    refine ⟨own6.1, ?_⟩
    rcases own6.2 with ⟨h1, _⟩ | ⟨g', cap', cur, h1, h2, h3, h4⟩
    · cases h1
    · exact .inr ⟨g', cap', cur, h1, h2, (show Blk W6 g' 65 cur from h3).other (by show g' ≠ cb; omega) _, h4⟩
  · rw [World.size_setCell]
    exact Nat.le_trans h.high hg.size
theorem samp_take {ll : List ProdM} {Q : ProdM → Bool} {j : Nat} {x : ProdM} (h : ll[j]? = some x) : (ll.take (j + 1)).filter Q = (ll.take j).filter Q ++ (if Q x then [x] else []) := by
  rw [take_snoc ll j x h, List.filter_append]
  congr 1
  simp only [List.filter_cons, List.filter_nil]
theorem SampL.chs {lim : Nat} (M : Mode lim) {w : World} {tb cb B n base : Nat} {cs : Array Value} {l : List ProdM} {v : Value} {W : World} (h : SampL w tb cb B n base cs l v W) (hne : l ≠ []) (hcb : cb < base) :
    ∃ G cap, base ≤ G ∧ l.length ≤ cap ∧ ChS M (cb + 1) w cb tb G 0 cap (List.replicate n none) l [] W := by
  rcases h.own.2 with ⟨_, h0⟩ | ⟨G, cap, cur, rfl, h1, h2, h3, h4, h5, h6⟩
  · exact absurd (List.length_eq_zero_iff.1 h0) hne
  · refine ⟨G, cap, h1, h3, ⟨[], _, rfl, by rw [List.length_replicate]; exact h.blk, .inl ⟨rfl, rfl⟩, fun a ha => by cases ha⟩, texts_none _ _ _ _ h.txt, fun i j a b _ ha => by simp at ha, ⟨cur, h2, fun m x _ hx j u hj => ?_⟩, h.below, Nat.le_trans hcb h.high⟩
    have hj7 : j < 7 := by
      have := (Array.getElem?_eq_some_iff.1 hj).1
      simpa [prodC] using this
    have hm := (List.getElem?_eq_some_iff.1 hx).1
    have e := cellsL_at (cs := prodC) (k := 7) (fun _ => rfl) l m x hx j hj7
    rw [hj, ← h6, List.getElem?_take, if_pos (by omega), Array.getElem?_toList] at e
    rw [Nat.zero_add]
    exact e
theorem waitOK_of {g : GramM} (hm : MayB g) {lim n : Nat} {w : World} (hg : GIn w g) {W : List ProdM} (hok : BegunOK g n g.sorts.length W) (hn : n ≤ lim) {ch : List (Option (List UInt8))} {l : List ProdM} {a : List (Nat × List UInt8)} (hK : Knu g n W ch l a) (hl : ch.length = g.sorts.length) : WaitOK lim w ch l := by
  have hx : ∀ x, x ∈ l → x ∈ g.prods := fun x h => (hok.mem x (hK.sub x h)).1
  refine ⟨fun x h => RowOf.mem hg.prods (hx x h), fun x h => hm.right x (hx x h), fun x h s hs hk => by rw [hl]; exact hok.sorts x (hK.sub x h) s hs hk, fun x h => ?_, fun x h hw => ?_⟩
  · obtain ⟨k, h1, _⟩ := hm.left x (hx x h); exact ⟨k, h1⟩
  · exact Nat.le_trans (hok.len x (hK.sub x h) _ (ready_txs hK.best (fun s hs hk => by rw [hl]; exact hok.sorts x (hK.sub x h) s hs hk) hw)) hn
structure SampK {lim : Nat} (M : Mode lim) (g : GramM) (n : Nat) (Wl : List ProdM) (w : World) (cb tb G cap : Nat) (ch : List (Option (List UInt8))) (l : List ProdM) (a : List (Nat × List UInt8)) (W : World) : Prop where
  chs : ChS M (cb + 1) w cb tb G 0 cap ch l a W
  knu : Knu g n Wl ch l a
  len : ch.length = g.sorts.length
  cap : l.length ≤ cap
  many : l.length + a.length ≤ Wl.length

set_option maxRecDepth 100000 in
set_option maxHeartbeats 8000000 in
theorem sample_any {lim : Nat} (M : Mode lim) (g : GramM) (hm : MayB g) (hs : MaySet g) (hf : Fit g) (S : List Int) (hS : ShortP g S) (Bl k n : Nat) (hk : k < g.sorts.length) (hgk : gi S k = n) (hn : n ≤ lim) (h1 : 1 ≤ lim) (hlim : lim ≤ 1048576) (w : World) (hg : GIn w g) (hBl : Blk w Bl 127 (ints (arrL S))) (hG : TabAt 1 Lib.deBruijn64tab w) :
    Calls Tryz.prog 61 #[gramV g, .pointer (some ⟨Bl, 0, none⟩), .int .i64 k] w fun e w' => ∃ t, LT g k t ∧ e = .returned (.string (bs t)) ∧ Below w.heap.size w w' := by
  have hmk := fun w' => make_ptrs g.sorts.length hm.sorts2 w'
  obtain ⟨i65, ti, tz, tis, tb'⟩ := info_parts info65
  obtain ⟨W2, hW2⟩ : ∃ W2, W2 = (w.alloc (.cells (gramC g) 27)).alloc (.cells (Array.replicate g.sorts.length (.pointer none)) 133) := ⟨_, rfl⟩
  have HB3 : Hid (Below w.heap.size w (W2.alloc (.cells #[.slice (some ⟨w.heap.size + 1, 0, none⟩) g.sorts.length g.sorts.length, .slice none 0 0, .slice none 0 0] 132))) := Lib.hid (by
    rw [hW2]
    exact (((Below.refl _ w).alloc (Nat.le_refl _) _).alloc (by simp) _).alloc (by simp; omega) _)
  have HLiv := Lib.hid (fun W (hW : Below w.heap.size w W) => living_any g hm hf W (hg.below hW))
  have HW2 := Lib.hid hW2
  have HA := Lib.hid (And.intro hm (And.intro hs (And.intro hS (And.intro hg (And.intro hBl hG)))))
  have hsz2 : W2.heap.size = w.heap.size + 2 := by rw [hW2]; simp
  have HSz := Lib.hid hsz2
  have hcb0 := Blk.new W2 132 #[.slice (some ⟨w.heap.size + 1, 0, none⟩) g.sorts.length g.sorts.length, .slice none 0 0, .slice none 0 0]
  rw [hsz2] at hcb0
  have HCb0 := Lib.hid hcb0
  have htx0 : Blk W2 (w.heap.size + 1) 133 (Array.replicate g.sorts.length (.pointer none)) := by
    rw [hW2]
    have := Blk.new (w.alloc (.cells (gramC g) 27)) 133 (Array.replicate g.sorts.length (Value.pointer none))
    rw [World.size_alloc] at this
    exact this
  have HTx0 := Lib.hid htx0
  have HC1 := Lib.hid (HLiv.out _ HB3.out)
  rw [hW2] at HC1
  obtain ⟨t0, ht0⟩ : ∃ t, LT g k t := by
    have hget : S[k]? = some (gi S k) := by
      have := gi_at (S := S) (i := (k : Int)) (by omega)
      rwa [Int.toNat_natCast] at this
    rcases hS.2 k _ hget with ⟨h, _⟩ | ⟨t, h, _⟩
    · omega
    · exact LT.exists h
  have hlt0 : t0.length ≤ n := by
    have hgi := hS.gi hk ht0
    omega
  have hWne : ∀ L, Live g L → sampW g L S k ≠ [] := fun L hL he => by
    obtain ⟨p, hp1, hp2, hp3, hp4⟩ := ht0.1.out
    have := sampW_begun hm hs hL hS hgk (by omega) p t0 hp1 hp2 hp4 (by rw [hp3]; exact ht0) hlt0
    rw [he] at this
    cases this
  have hne : ∀ L, Live g L → livL g L ≠ [] := fun L hL he => hWne L hL (by unfold sampW; rw [he]; rfl)
  have HNe := Lib.hid hne
  have HWne := Lib.hid hWne
  have HT0 := Lib.hid (And.intro ht0 hlt0)
  have hk1 : k < 1000 := Nat.lt_of_lt_of_le hk hm.sorts2
  have hbl0 := hBl.lt
  have HGk := Lib.hid hgk
  have HKs := Lib.hid hk
  have hnb : n ≤ 1048576 := by omega
  have HLim := Lib.hid (And.intro hn (And.intro h1 hlim))
  clear hm hs hS hg hBl hG hf hW2 hsz2 hcb0 htx0 hne ht0 hWne hlt0 hgk hk hn h1 hlim
  unfold gramV gramC at *
  go_enter Tryz.func61, Tryz.ntmps61
  go_wp2_with fail
  refine HC1.out.mono ?_
  rintro e w3 ⟨L, a, c, hL, rfl, hO, hB⟩
  obtain ⟨B, cs, rfl, hBn, hBb, hPr⟩ : ∃ B cs, a = some ⟨B, 0, none⟩ ∧ _ ≤ B ∧ Blk w3 B 65 cs ∧ PRow cs 0 (livL g L) 0 := by
    rcases hO.row with ⟨_, h⟩ | h
    · exact absurd h (HNe.out L hL)
    · exact h
  have HL := Lib.hid hL
  have HCap := Lib.hid hO.cap
  have HPr := Lib.hid hPr
  obtain ⟨ll, hll⟩ : ∃ ll, ll = livL g L := ⟨_, rfl⟩
  have HLl := Lib.hid hll
  rw [← hll] at HPr HCap ⊢
  obtain ⟨q, hq⟩ : ∃ q, q = ll.length := ⟨_, rfl⟩
  have HQ := Lib.hid hq
  rw [← hq] at HCap ⊢
  have hql : q ≤ 1000 := by rw [hq, hll]; exact Nat.le_trans (livL_len g L) HA.out.1.prods
  have HS0 : Hid (SampL w (w.heap.size + 1) (w.heap.size + 1 + 1) B g.sorts.length w3.heap.size cs ((ll.take 0).filter (sampQ S k)) (.slice none 0 0) w3) := Lib.hid (by
    have hB' := hB
    rw [← HW2.out] at hB'
    have hB3 := HB3.out
    exact ⟨hB3.trans (hB'.mono hB3.size), HCb0.out.below hB' HCb0.out.lt, (HTx0.out.alloc _).below hB' (HTx0.out.alloc _).lt, hBb, ⟨rfl, .inl ⟨rfl, rfl⟩⟩, Nat.le_refl _⟩)
  have hBlt : B < w3.heap.size := hBb.lt
  have hBw : w.heap.size + 1 + 1 + 1 ≤ B := by simp at hBn; omega
  clear hO hB hBn hBb hPr hL hll hq HC1 hmk HLiv HB3 HW2 HCb0 HTx0 HNe
  go_wp2
  go_loopw [19] (fun vi wr => ∃ (j : Nat), vi = .int .i64 j ∧ j ≤ q ∧ ∃ v, Hid (SampL w (w.heap.size + 1) (w.heap.size + 1 + 1) B g.sorts.length w3.heap.size cs ((ll.take j).filter (sampQ S k)) v wr)) (fun vi _ => q - (intOf vi).toNat)
  case atStart => exact ⟨0, rfl, Nat.zero_le _, _, HS0⟩
  case round =>
    clear HS0
    obtain ⟨j, rfl, hj, v, HI⟩ := hrel
    by_cases hlt : j < q
    · obtain ⟨x, hx⟩ : ∃ x, ll[j]? = some x := ⟨_, List.getElem?_eq_getElem (by rw [← HQ.out]; exact hlt)⟩
      have HX := Lib.hid hx
      have hxm : x ∈ ll := List.mem_of_getElem? hx
      have hxg : x ∈ g.prods := (livL_mem.1 (by rw [← HLl.out]; exact hxm)).1
      obtain ⟨xl, hxl, hxl2⟩ := HA.out.1.left x hxg
      have hc := Prod_at ((HPr.out j x (Nat.zero_le _) hx).cells HI.out.row)
      rw [Nat.zero_add] at hc
      obtain ⟨c0, c1, c2, c3, c4, c5, c6⟩ := hc
      have lB := HI.out.row.lt
      have HIb := Lib.hid (HI.out.on (V := wr.alloc (.cells (prodC x) 65)) ((Below.refl _ _).alloc (Nat.le_refl _) _))
      have HK := Lib.hid (Blk.new wr 65 (prodC x))
      have HOf := Lib.hid (of_any x S Bl (wr.alloc (.cells (prodC x) 65)) (HA.out.2.2.2.2.1.below HIb.out.below HA.out.2.2.2.2.1.lt) (by rw [HA.out.2.2.1.1]; exact HA.out.1.sorts2) HA.out.2.2.1.sound.lo ((RowOf.mem HA.out.2.2.2.1.prods hxg).below HIb.out.below) (HA.out.1.right x hxg) (fun s hs hk => by rw [HA.out.2.2.1.1]; exact HA.out.1.sym x hxg s hs hk))
      have HTk : Hid ((ll.take (j + 1)).filter (sampQ S k) = (ll.take j).filter (sampQ S k) ++ (if sampQ S k x then [x] else [])) := Lib.hid (samp_take hx)
      have HSq : Hid (sampQ S k x = (decide (sumA S x.right 0 = gi S xl) && decide (sumA S x.right 0 ≤ n))) := Lib.hid (by unfold sampQ; rw [hxl, HGk.out])
      have hal : (arrL S).length = 1000 := arrL_len (by rw [HA.out.2.2.1.1]; exact HA.out.1.sorts2)
      have cA := (HA.out.2.2.2.2.1.cell xl).trans (arrL_at (S := S) (k := xl) (by rw [HA.out.2.2.1.1]; exact hxl2))
      have cB := (HA.out.2.2.2.2.1.cell k).trans (arrL_at (S := S) (k := k) (by rw [HA.out.2.2.1.1]; exact HKs.out))
      rw [HGk.out] at cB
      have HAB := Lib.hid (And.intro cA cB)
      have hxl3 : xl < 1000 := Nat.lt_of_lt_of_le hxl2 HA.out.1.sorts2
      obtain ⟨u, hu⟩ : ∃ u, u = sumA S x.right 0 := ⟨_, rfl⟩
      rw [← hu] at HOf HSq
      obtain ⟨f, hf⟩ : ∃ f, f = (ll.take j).filter (sampQ S k) := ⟨_, rfl⟩
      have hfl : f.length ≤ j := by rw [hf]; exact Nat.le_trans (List.length_filter_le _ _) (by rw [List.length_take]; omega)
      rw [← hf] at HIb HTk
      have n1 : (j : Int) < (q : Int) := by omega
      have n0 : (0 : Int) ≤ (j : Int) := by omega
      have m1 : (xl : Int) < 1000 := by omega
      have m0 : (0 : Int) ≤ (xl : Int) := by omega
      have m3 : (k : Int) < 1000 := by omega
      have m2 : (0 : Int) ≤ (k : Int) := by omega
      have HXp := Lib.hid (prod_one x)
      clear hxm hxg hx hxl2 hal cA cB hu hf HI
      obtain ⟨xf, xra, xrc, xr, xco, xro, xpr, xav, xfr⟩ := x
      unfold prodV at HOf
      unfold prodC at HOf HK HIb HXp
      dsimp only at *
      subst hxl
      go_wp2_with fail
      refine HOf.out.mono ?_
      rintro e w5 ⟨rfl, hB5⟩
      have HI5 := Lib.hid (HIb.out.on hB5)
      have hK5 := HK.out.below hB5 (by simp)
      have d0 := hK5.cell 0
      have d1 := hK5.cell 1
      have d2 := hK5.cell 2
      have d3 := hK5.cell 3
      have d4 := hK5.cell 4
      have d5 := hK5.cell 5
      have d6 := hK5.cell 6
      have dl := hK5.lt
      simp only [List.getElem?_toArray, List.getElem?_cons_zero, List.getElem?_cons_succ] at d0 d1 d2 d3 d4 d5 d6
      have cA := (HI5.out.below.cell (p := ⟨Bl, xl, none⟩) hbl0).trans HAB.out.1
      have cB := (HI5.out.below.cell (p := ⟨Bl, k, none⟩) hbl0).trans HAB.out.2
      have bl5 : Bl < w5.heap.size := Nat.lt_of_lt_of_le hbl0 HI5.out.below.size
      obtain ⟨gx, hgx⟩ : ∃ gx, gx = gi S xl := ⟨_, rfl⟩
      rw [← hgx] at cA HSq
      have HK5 := Lib.hid hK5
      clear HOf HK HIb hK5 hgx hB5 c0 c1 c2 c3 c4 c5 c6 lB HAB
      have HNo : Hid (sampQ S k ⟨(xl : Int), xra, xrc, xr, xco, xro, xpr, xav, xfr⟩ = false → ∀ m : Nat, SampL w (w.heap.size + 1) (w.heap.size + 1 + 1) B g.sorts.length w3.heap.size cs ((ll.take (j + 1)).filter (sampQ S k)) v (w5.drewN m)) := Lib.hid (fun h m => by
        rw [HTk.out, h, if_neg (by decide), List.append_nil]
        exact HI5.out.on (below_drewN (Below.refl _ _) m))
      by_cases hu1 : u = gx
      · subst hu1
        by_cases hu2 : u ≤ n
        · have HYes : Hid (sampQ S k ⟨(xl : Int), xra, xrc, xr, xco, xro, xpr, xav, xfr⟩ = true) := Lib.hid (by rw [HSq.out, decide_eq_true rfl, decide_eq_true hu2]; rfl)
          have e2 : decide (u ≤ (n : Int)) = true := by simpa using hu2
          clear HNo HSq
          go_wp2
          go_quiet (fail)
          have hW := HI5.out.on (below_drewN (Below.refl w5.heap.size w5) nq)
          have hKq : Blk (w5.drewN nq) wr.heap.size 65 #[.int .i64 (xl : Int), .slice xra xr.length xrc, .string xco, .int .i64 xro, .bool xpr, .bool xav, .int .i64 xfr] := HK5.out.below (below_drewN (Below.refl w5.heap.size w5) nq) dl
          obtain ⟨W5, hW5⟩ : ∃ W5, W5 = w5.drewN nq := ⟨_, rfl⟩
          rw [← hW5] at hW hKq ⊢
          have HW := Lib.hid hW
          obtain ⟨d0, d1, d2, d3, d4, d5, d6⟩ := cells7g hKq
          have dl := hKq.lt
          have b1 := hW.blk.cell 1
          have bl := hW.blk.lt
          have HV := Lib.hid (hW.on (V := W5.alloc (.cells #[.int .i64 (xl : Int), .slice xra xr.length xrc, .string xco, .int .i64 xro, .bool xpr, .bool xav, .int .i64 xfr] 65)) ((Below.refl _ _).alloc (Nat.le_refl _) _))
          have HCn := Lib.hid (cells_new W5 #[.int .i64 (xl : Int), .slice xra xr.length xrc, .string xco, .int .i64 xro, .bool xpr, .bool xav, .int .i64 xfr] 65)
          have hb3 := hW.high
          clear hW hKq hW5 HI5 HK5 cA cB bl5
          have hown := HV.out.own
          go_wp2_with (at_builtin; (refine wpList_append_lies _ rfl (.tmp 44) (.tmp 46) 23 rfl w3.heap.size 65 i65 _ 7 72 Tryz.underlying23 ti tz tis tb' rfl (by omega) v f.length (cellsL prodC f) rfl hown ⟨W5.heap.size, 0, none⟩ 1 1 [.int .i64 (xl : Int), .slice xra xr.length xrc, .string xco, .int .i64 xro, .bool xpr, .bool xav, .int .i64 xfr] rfl rfl HCn.out HXp.out (by omega) (by unfold maxLen; omega) (by omega) (by simp; omega) _ rfl ?_))
          intro G cap w6 hown6 hgr hGe hGl
          have HZ := Lib.hid (HV.out.push (x := ⟨(xl : Int), xra, xrc, xr, xco, xro, xpr, xav, xfr⟩) hown6 hgr (by omega) (by omega) hBlt (by omega) (by omega) (by omega))
          have hb6 := HV.out.blk.kept hgr (HV.out.ownNe (by omega))
          have b6 := hb6.cell 1
          have l6 := hb6.lt
          have f6 := hb6.frozen 1
          rw [show f ++ [(⟨(xl : Int), xra, xrc, xr, xco, xro, xpr, xav, xfr⟩ : ProdM)] = (ll.take (j + 1)).filter (sampQ S k) by rw [HTk.out, HYes.out, if_pos rfl]] at HZ
          clear hown hown6 hgr hb6 HV HCn HW HTk HYes hGe
          go_wp2
          go_roundw
          case rel => exact ⟨j + 1, by go_num, by omega, _, HZ⟩
          case measure => simp [intOf]; omega
        · have HNn := Lib.hid (HNo.out (by rw [HSq.out, decide_eq_false hu2, Bool.and_false]))
          have e2 : decide (u ≤ (n : Int)) = false := by simpa using hu2
          clear HNo HSq
          go_wp2
          go_quiet (fail)
          go_wp2
          go_roundw
          case rel => exact ⟨j + 1, by go_num, by omega, v, Lib.hid (HNn.out _)⟩
          case measure => simp [intOf]; omega
      · have HNn := Lib.hid (HNo.out (by rw [HSq.out, decide_eq_false hu1, Bool.false_and]))
        have e1 : (u == gx) = false := by simpa using hu1
        clear HNo HSq hu1
        go_wp2
        go_quiet (fail)
        go_wp2
        go_roundw
        case rel => exact ⟨j + 1, by go_num, by omega, v, Lib.hid (HNn.out _)⟩
        case measure => simp [intOf]; omega
    · obtain rfl : j = q := by omega
      have e1 : (ll.take j).filter (sampQ S k) = sampW g L S k := by
        unfold sampW
        rw [← HLl.out, List.take_of_length_le (by have := HQ.out; omega)]
      have hI := HI.out
      rw [e1] at hI
      obtain ⟨G, cap, hG1, hcap, hch⟩ := hI.chs M (HWne.out L HL.out) (by omega)
      have HOk := Lib.hid (sampW_ok HA.out.1 HA.out.2.1 (L := L) HA.out.2.2.1 HGk.out hnb)
      have HBeg := Lib.hid (sampW_begun HA.out.1 HA.out.2.1 HL.out HA.out.2.2.1 HGk.out hnb)
      obtain ⟨Wl, hWl⟩ : ∃ Wl, Wl = sampW g L S k := ⟨_, rfl⟩
      have hWn : Wl.length ≤ 1000 := by
        rw [hWl]
        unfold sampW
        exact Nat.le_trans (List.length_filter_le _ _) (by rw [← HLl.out, ← HQ.out]; omega)
      rw [← hWl] at hch hcap HOk HBeg
      have HK0 : Hid (SampK M g n Wl w (w.heap.size + 1 + 1) (w.heap.size + 1) G cap (List.replicate g.sorts.length none) Wl [] wr) := Lib.hid ⟨hch, Knu.begin _, by simp, hcap, by simp⟩
      have hGw : w.heap.size ≤ G := by omega
      clear HI e1 hI hch hWl hcap HWne HPr HLl HL HQ HCap
      go_wp2
      go_loopg [] Wl.length (fun gg wr => ∃ ch l a, Hid (SampK M g n Wl w (w.heap.size + 1 + 1) (w.heap.size + 1) G cap ch l a wr ∧ l.length + a.length ≤ gg))
      case atStart => exact ⟨_, _, _, Lib.hid ⟨HK0.out, HK0.out.many⟩⟩
      case round =>
        clear HK0
        obtain ⟨ch, l, a, K⟩ := hrel
        obtain ⟨os, ov, _, hc, _, _⟩ := K.out.1.chs.ex
        obtain ⟨ts, ht1, ht2, ht3⟩ := K.out.1.chs.tx
        rw [K.out.1.len] at hc
        have c0 := hc.cell 0
        have lc := hc.lt
        have lt := ht1.lt
        have hkl : k < ch.length := by rw [K.out.1.len]; exact HKs.out
        have hget : ch[k]? = some ch[k] := List.getElem?_eq_getElem hkl
        have z1 : (k : Int) < (g.sorts.length : Int) := by have := HKs.out; omega
        have z0 : (0 : Int) ≤ (k : Int) := by omega
        rcases ht3 k _ hget with ⟨ho, hu⟩ | ⟨t, b, ho, hu, hT⟩
        · have y0 := (ht1.cell k).trans hu
          have hp : ∀ W : World, (binOp .eql 133 (.pointer none) (.pointer none)).run Tryz.prog W = .ok (.bool true) W := fun W => by kernel_rfl
          have HGa := Lib.hid (gather_any M (w.heap.size + 1 + 1 + 1) w (w.heap.size + 1 + 1) (w.heap.size + 1) G 0 cap ch l a wr K.out.1.chs (waitOK_of HA.out.1 HA.out.2.2.2.1 HOk.out HLim.out.1 K.out.1.knu K.out.1.len) (by rw [K.out.1.len]; exact HA.out.1.sorts2) HLim.out.2.1 (by omega) hGw HA.out.2.2.2.2.2 (by have := K.out.1.many; omega) K.out.1.cap)
          have hKg := K.out.1.knu.gather (by rw [K.out.1.len]; exact HOk.out)
          have hFl : ∀ p, p ∈ (l.filter fun x => x.right.any (waitsQ ch)) → p.right.any (waitsQ ch) = true := fun p hp => (List.mem_filter.1 hp).2
          have hmore := hKg.more HBeg.out hFl HT0.out.1 HT0.out.2 (by rw [hget, ho])
          have hcnt := gather_count ch l a
          have hl2 : (l.filter fun x => x.right.any (waitsQ ch)).length ≤ l.length := List.length_filter_le _ _
          obtain ⟨l2, hl2e⟩ : ∃ l2, l2 = l.filter fun x => x.right.any (waitsQ ch) := ⟨_, rfl⟩
          obtain ⟨a2, ha2e⟩ : ∃ a2, a2 = l.foldl (gatherA ch) a := ⟨_, rfl⟩
          rw [← hl2e] at HGa hKg hFl hcnt hl2
          rw [← ha2e] at HGa hKg hmore hcnt
          obtain ⟨x, a3, rfl⟩ : ∃ x a3, a2 = x :: a3 := List.exists_cons_of_ne_nil hmore
          have HN : Hid (l2.length + a3.length < gk ∧ l2.length ≤ cap ∧ l2.length + a3.length ≤ Wl.length ∧ x.1 < ch.length ∧ ch.length ≤ 1000 ∧ ch.length = g.sorts.length) := Lib.hid (by
            have h1 := K.out.2
            have h2 := K.out.1.cap
            have h3 := K.out.1.many
            rw [List.length_cons] at hcnt
            exact ⟨by omega, by omega, by omega, (hKg.text x (by simp)).2.2, by rw [K.out.1.len]; exact HA.out.1.sorts2, K.out.1.len⟩)
          have HKg := Lib.hid (And.intro hKg hFl)
          clear K hKg hFl hmore hcnt hl2 hl2e ha2e ht1 ht2 ht3 hget ho hu hc hkl
          go_wp2_with fail
          refine HGa.out.mono ?_
          rintro e w4 ⟨rfl, hch4⟩
          have HCo := Lib.hid (choose_any M (w.heap.size + 1 + 1 + 1) w (w.heap.size + 1 + 1) (w.heap.size + 1) G 0 cap ch l2 x a3 w4 hch4 HN.out.2.2.2.1 HN.out.2.2.2.2.1 (by omega) (by omega) (by omega) (by have := HN.out.2.2.1; omega))
          have HKn := Lib.hid (HKg.out.1.choose HBeg.out HKg.out.2 hch4.srt)
          clear hch4 HGa HKg c0 lc lt y0
          go_wp2_with fail
          refine HCo.out.mono ?_
          rintro e w5 ⟨rfl, hch5⟩
          have HZ : Hid (SampK M g n Wl w (w.heap.size + 1 + 1) (w.heap.size + 1) G cap (chooseC ch x) l2 a3 w5 ∧ l2.length + a3.length ≤ l2.length + a3.length) := Lib.hid ⟨⟨hch5, HKn.out, by rw [chooseC_len]; exact HN.out.2.2.2.2.2, HN.out.2.1, HN.out.2.2.1⟩, Nat.le_refl _⟩
          clear hch5 HCo HKn
          go_wp2
          go_roundg (l2.length + a3.length)
          case rel => exact ⟨_, l2, a3, HZ⟩
          case measure => exact HN.out.1
        · have y0 := (ht1.cell k).trans hu
          have hp : ∀ W : World, (binOp .eql 133 (.pointer (some ⟨b, 0, none⟩)) (.pointer none)).run Tryz.prog W = .ok (.bool false) W := fun W => by kernel_rfl
          have hLT := K.out.1.knu.best k t (by rw [hget, ho])
          have hlen : t.length ≤ lim := Nat.le_trans (hLT.short HT0.out.1.1) (Nat.le_trans HT0.out.2 HLim.out.1)
          have HSt := Lib.hid (M.str _ b t wr hT hlen)
          have HLT := Lib.hid hLT
          have HBr := Lib.hid K.out.1.chs.below
          clear K ht1 ht2 ht3 hget ho hu hT hc hLT hlen hkl
          go_wp2_with fail
          refine HSt.out.mono ?_
          rintro e w4 ⟨rfl, hB4⟩
          have HB4 := Lib.hid (HBr.out.trans (hB4.mono HBr.out.size))
          clear hB4 HSt
          go_wp2
          go_ret
          exact ⟨t, HLT.out, rfl, HB4.out⟩
end Go.Proofs.YtodnlcbnbkkanaaGreatDoor
end
section
namespace Go.Proofs.YtodnlcbnbkkanaaGreatDoor
open Go Go.RowKit

def SampTell (w : World) (g : GramM) (k : Int) (e : Ending) (w' : World) : Prop :=
  Below w.heap.size w w' ∧ ((checkB g = false ∧ e = .returned (.tuple #[.string ⟨#[]⟩, .int .i64 160])) ∨ (checkB g = true ∧ ((numB k g.sorts.length = false ∧ e = .returned (.tuple #[.string ⟨#[]⟩, .int .i64 4])) ∨ (numB k g.sorts.length = true ∧ ∃ S, ShortP g S ∧
    ((gi S k = -1 ∧ e = .returned (.tuple #[.string ⟨#[]⟩, .int .i64 161])) ∨ (gi S k = 1048577 ∧ e = .returned (.tuple #[.string ⟨#[]⟩, .int .i64 3])) ∨ (0 ≤ gi S k ∧ gi S k ≤ 1048576 ∧ ∃ t, LT g k.toNat t ∧ e = .returned (.tuple #[.string (bs t), .int .i64 0])))))))

set_option maxRecDepth 100000 in
set_option maxHeartbeats 4000000 in
theorem Sample_any {lim : Nat} (M : Mode lim) (g : GramM) (hf : FitG g) (k : Int) (h1 : 1 ≤ lim) (hlim : lim ≤ 1048576) (hL : ∀ S, ShortP g S → gi S k ≤ lim ∨ gi S k = 1048577) (w : World) (hg : GIn w g) (hG : TabAt 1 Lib.deBruijn64tab w) :
    Calls Tryz.prog 29 #[gramV g, .int .i64 k] w (SampTell w g k) := by
  have hB1 : Below w.heap.size w (w.alloc (.cells (gramC g) 27)) := (Below.refl _ _).alloc (Nat.le_refl _) _
  have HC := Lib.hid (check_any g _ (hg.below hB1) hf)
  have HB := Lib.hid hB1
  have HK := Lib.hid (Blk.new w 27 (gramC g))
  have HG := Lib.hid hg
  have HL := Lib.hid hL
  have HTab := Lib.hid hG
  have HLim := Lib.hid (And.intro h1 hlim)
  obtain ⟨b, hb⟩ : ∃ b, b = checkB g := ⟨_, rfl⟩
  have HBb := Lib.hid hb
  rw [← hb] at HC
  have HF := Lib.hid hf
  obtain ⟨n, hn⟩ : ∃ n, n = g.sorts.length := ⟨_, rfl⟩
  have HN := Lib.hid hn
  clear hf hg hB1 hb hL hG h1 hlim
  unfold gramV gramC errI at *
  rw [← hn] at HC HB HK ⊢
  have HGr : Hid (gramV g = .agg #[.slice g.sa n g.sc, .slice g.pa g.prods.length g.pc, .int .i64 g.start, .slice g.fa g.forbid.length g.fc, .slice g.wa g.follow.length g.wc]) := Lib.hid (by rw [hn]; rfl)
  clear hn
  go_enter Tryz.func29, Tryz.ntmps29
  go_wp2_with fail
  refine HC.out.mono ?_
  rintro e w3 ⟨rfl, hB3⟩
  have HB3 := Lib.hid (HB.out.trans (hB3.mono HB.out.size))
  have HK3 := Lib.hid (HK.out.below hB3 HK.out.lt)
  clear hB3 HC
  cases b with
  | false =>
    rw [if_neg (by decide)]
    go_wp2
    go_ret2
    exact ⟨HB3.out, .inl ⟨HBb.out.symm, rfl⟩⟩
  | true =>
    rw [if_pos rfl]
    have HM := Lib.hid (And.intro (mayB_of HBb.out.symm) (maySet_of HBb.out.symm))
    have c0 := HK3.out.cell 0
    have c1 := HK3.out.cell 1
    have c2 := HK3.out.cell 2
    have c3 := HK3.out.cell 3
    have c4 := HK3.out.cell 4
    simp only [List.getElem?_toArray, List.getElem?_cons_zero, List.getElem?_cons_succ] at c0 c1 c2 c3 c4
    have l3 := HK3.out.lt
    by_cases k0 : k < 0
    · have HNo : Hid (numB k g.sorts.length = false) := Lib.hid (by unfold numB; simp; omega)
      have d0 : decide (k < 0) = true := by simpa using k0
      go_wp2
      go_ret2
      exact ⟨HB3.out, .inr ⟨HBb.out.symm, .inl ⟨HNo.out, rfl⟩⟩⟩
    · have d0 : decide (k < 0) = false := by simpa using k0
      by_cases k1 : (n : Int) ≤ k
      · have HNo : Hid (numB k g.sorts.length = false) := Lib.hid (by unfold numB; rw [← HN.out]; simp; omega)
        have d1 : decide ((n : Int) ≤ k) = true := by simpa using k1
        go_wp2
        go_ret2
        exact ⟨HB3.out, .inr ⟨HBb.out.symm, .inl ⟨HNo.out, rfl⟩⟩⟩
      · have HYes : Hid (numB k g.sorts.length = true) := Lib.hid (by unfold numB; rw [← HN.out]; simp; omega)
        have d1 : decide ((n : Int) ≤ k) = false := by simpa using k1
        obtain ⟨kk, rfl⟩ : ∃ kk : Nat, k = kk := ⟨k.toNat, by omega⟩
        have HSh := Lib.hid (shortest_any g HM.out.1 HM.out.2 w3 (HG.out.below HB3.out))
        unfold ArrPost at HSh
        rw [HGr.out] at HSh
        have hk1 : kk < n := by omega
        have hn1 : n ≤ 1000 := by rw [HN.out]; exact HM.out.1.sorts2
        clear k0 k1
        go_wp2_with fail
        refine HSh.out.mono ?_
        rintro e w4 ⟨S, B, hS, rfl, hBl, hA, hB4⟩
        have HS := Lib.hid hS
        have HA := Lib.hid hA
        have HB4 := Lib.hid (HB3.out.trans (hB4.mono HB3.out.size))
        have hK4 := HK3.out.below hB4 l3
        have e0 := hK4.cell 0
        have e1 := hK4.cell 1
        have e2 := hK4.cell 2
        have e3 := hK4.cell 3
        have e4 := hK4.cell 4
        simp only [List.getElem?_toArray, List.getElem?_cons_zero, List.getElem?_cons_succ] at e0 e1 e2 e3 e4
        have l4 := hK4.lt
        have hSl : kk < S.length := by rw [hS.1, ← HN.out]; exact hk1
        have a0 := (hA.cell kk).trans (arrL_at (S := S) (k := kk) hSl)
        have al := hA.lt
        have hlo := hS.sound.lo (kk : Int)
        have hLk := HL.out S hS
        obtain ⟨v, hv⟩ : ∃ v, v = gi S (kk : Int) := ⟨_, rfl⟩
        have HV := Lib.hid hv
        rw [← hv] at a0 hlo hLk
        have hk2 : kk < 1000 := by omega
        have z1 : (kk : Int) < 1000 := by omega
        have z0 : (0 : Int) ≤ (kk : Int) := by omega
        obtain ⟨hlo1, hlo2⟩ := hlo
        clear hS hA hB4 hK4 hSl hv HSh c0 c1 c2 c3 c4
        by_cases v0 : v = -1
        · have HE := Lib.hid (show gi S (kk : Int) = -1 by rw [← HV.out]; exact v0)
          subst v0
          clear hLk
          go_wp2
          go_ret2
          exact ⟨HB4.out, .inr ⟨HBb.out.symm, .inr ⟨HYes.out, S, HS.out, .inl ⟨HE.out, rfl⟩⟩⟩⟩
        · by_cases v1 : v = 1048577
          · have HE := Lib.hid (show gi S (kk : Int) = 1048577 by rw [← HV.out]; exact v1)
            subst v1
            clear hLk
            go_wp2
            go_ret2
            exact ⟨HB4.out, .inr ⟨HBb.out.symm, .inr ⟨HYes.out, S, HS.out, .inr (.inl ⟨HE.out, rfl⟩)⟩⟩⟩
          · obtain ⟨vn, rfl⟩ : ∃ vn : Nat, v = vn := ⟨v.toNat, by omega⟩
            have w0 : ((vn : Int) == -1) = false := by simp
            have w1 : ((vn : Int) == 1048577) = false := by simpa using v1
            have HS2 := Lib.hid (sample_any M g HM.out.1 HM.out.2 HF.out.fit S HS.out B kk vn (by rw [← HN.out]; exact hk1) HV.out.symm (by omega) HLim.out.1 HLim.out.2 w4 (HG.out.below HB4.out) HA.out (KpG.tab (KpG.below HB4.out (lt_of_cell (HTab.out 0 (by decide)))) HTab.out))
            rw [HGr.out] at HS2
            have HVb : Hid (0 ≤ gi S (kk : Int) ∧ gi S (kk : Int) ≤ 1048576) := Lib.hid (by rw [← HV.out]; omega)
            clear hLk v0 v1
            go_wp2_with fail
            refine HS2.out.mono ?_
            rintro e w5 ⟨t, hT, rfl, hB5⟩
            have HT := Lib.hid hT
            have HB5 := Lib.hid (HB4.out.trans (hB5.mono HB4.out.size))
            clear hT hB5 HS2
            go_wp2
            go_ret2
            exact ⟨HB5.out, .inr ⟨HBb.out.symm, .inr ⟨HYes.out, S, HS.out, .inr (.inr ⟨HVb.out.1, HVb.out.2, t, by rw [Int.toNat_natCast]; exact HT.out, rfl⟩)⟩⟩⟩
end Go.Proofs.YtodnlcbnbkkanaaGreatDoor
end
section
namespace Go.Proofs.YtodnlcbnbkkanaaGreatDoor
open Go Go.RowKit

def lx : BS := 1#256 <<< 120
def la : BS := 1#256 <<< 97
theorem lx_w : symV ⟨0, lx, 0⟩ = .agg #[.int .i64 0, .int .u64 0, .int .u64 72057594037927936, .int .u64 0, .int .u64 0, .int .i64 0] := by
  unfold symV symC
  rw [show wdI lx 0 = 0 by decide +kernel, show wdI lx 1 = 72057594037927936 by decide +kernel, show wdI lx 2 = 0 by decide +kernel, show wdI lx 3 = 0 by decide +kernel]
theorem la_w : symV ⟨0, la, 0⟩ = .agg #[.int .i64 0, .int .u64 0, .int .u64 8589934592, .int .u64 0, .int .u64 0, .int .i64 0] := by
  unfold symV symC
  rw [show wdI la 0 = 0 by decide +kernel, show wdI la 1 = 8589934592 by decide +kernel, show wdI la 2 = 0 by decide +kernel, show wdI la 3 = 0 by decide +kernel]

set_option maxRecDepth 100000 in
set_option maxHeartbeats 2000000 in
theorem one_x (w : World) : Calls Tryz.prog 33 #[.int .u8 120] w fun e w' => e = .returned (symV ⟨0, lx, 0⟩) ∧ Below w.heap.size w w' := by
  rw [lx_w]
  have hb := (Blk.new w 60 #[.int .i64 0, .int .u64 0, .int .u64 72057594037927936, .int .u64 0, .int .u64 0, .int .i64 0]).alloc (.cells #[.int .u64 0, .int .u64 72057594037927936, .int .u64 0, .int .u64 0] 47)
  have HB : Hid (Below w.heap.size w ((w.alloc (.cells #[.int .i64 0, .int .u64 0, .int .u64 72057594037927936, .int .u64 0, .int .u64 0, .int .i64 0] 60)).alloc (.cells #[.int .u64 0, .int .u64 72057594037927936, .int .u64 0, .int .u64 0] 47))) := Lib.hid (((Below.refl _ _).alloc (Nat.le_refl _) _).alloc (by simp) _)
  have q0 := hb.cell 0
  have q1 := hb.cell 1
  have q2 := hb.cell 2
  have q3 := hb.cell 3
  have q4 := hb.cell 4
  have q5 := hb.cell 5
  simp only [List.getElem?_toArray, List.getElem?_cons_zero, List.getElem?_cons_succ] at q0 q1 q2 q3 q4 q5
  clear hb
  go_enter Tryz.func33, Tryz.ntmps33
  go_wp2
  refine bodyPost_ret (v := .agg #[.int .i64 0, .int .u64 0, .int .u64 72057594037927936, .int .u64 0, .int .u64 0, .int .i64 0]) (by simp [results, Tryz.results33, go_sem, q0, q1, q2, q3, q4, q5]) rfl ⟨rfl, ?_⟩
  exact HB.out

set_option maxRecDepth 100000 in
set_option maxHeartbeats 2000000 in
theorem one_a (w : World) : Calls Tryz.prog 33 #[.int .u8 97] w fun e w' => e = .returned (symV ⟨0, la, 0⟩) ∧ Below w.heap.size w w' := by
  rw [la_w]
  have hb := (Blk.new w 60 #[.int .i64 0, .int .u64 0, .int .u64 8589934592, .int .u64 0, .int .u64 0, .int .i64 0]).alloc (.cells #[.int .u64 0, .int .u64 8589934592, .int .u64 0, .int .u64 0] 47)
  have HB : Hid (Below w.heap.size w ((w.alloc (.cells #[.int .i64 0, .int .u64 0, .int .u64 8589934592, .int .u64 0, .int .u64 0, .int .i64 0] 60)).alloc (.cells #[.int .u64 0, .int .u64 8589934592, .int .u64 0, .int .u64 0] 47))) := Lib.hid (((Below.refl _ _).alloc (Nat.le_refl _) _).alloc (by simp) _)
  have q0 := hb.cell 0
  have q1 := hb.cell 1
  have q2 := hb.cell 2
  have q3 := hb.cell 3
  have q4 := hb.cell 4
  have q5 := hb.cell 5
  simp only [List.getElem?_toArray, List.getElem?_cons_zero, List.getElem?_cons_succ] at q0 q1 q2 q3 q4 q5
  clear hb
  go_enter Tryz.func33, Tryz.ntmps33
  go_wp2
  refine bodyPost_ret (v := .agg #[.int .i64 0, .int .u64 0, .int .u64 8589934592, .int .u64 0, .int .u64 0, .int .i64 0]) (by simp [results, Tryz.results33, go_sem, q0, q1, q2, q3, q4, q5]) rfl ⟨rfl, ?_⟩
  exact HB.out

set_option maxRecDepth 100000 in
set_option maxHeartbeats 2000000 in
theorem sortSym_any (i : Int) (w : World) : Calls Tryz.prog 32 #[.int .i64 i] w fun e w' => e = .returned (symV ⟨1, 0, i⟩) ∧ Below w.heap.size w w' := by
  have hz : symV ⟨1, 0, i⟩ = .agg #[.int .i64 1, .int .u64 0, .int .u64 0, .int .u64 0, .int .u64 0, .int .i64 i] := by
    unfold symV symC
    rw [show wdI (0 : BS) 0 = 0 by decide +kernel, show wdI (0 : BS) 1 = 0 by decide +kernel, show wdI (0 : BS) 2 = 0 by decide +kernel, show wdI (0 : BS) 3 = 0 by decide +kernel]
  rw [hz]
  have hb := Blk.new w 60 #[.int .i64 1, .int .u64 0, .int .u64 0, .int .u64 0, .int .u64 0, .int .i64 i]
  have HB : Hid (Below w.heap.size w (w.alloc (.cells #[.int .i64 1, .int .u64 0, .int .u64 0, .int .u64 0, .int .u64 0, .int .i64 i] 60))) := Lib.hid ((Below.refl _ _).alloc (Nat.le_refl _) _)
  have q0 := hb.cell 0
  have q1 := hb.cell 1
  have q2 := hb.cell 2
  have q3 := hb.cell 3
  have q4 := hb.cell 4
  have q5 := hb.cell 5
  simp only [List.getElem?_toArray, List.getElem?_cons_zero, List.getElem?_cons_succ] at q0 q1 q2 q3 q4 q5
  clear hb hz
  go_enter Tryz.func32, Tryz.ntmps32
  go_wp2
  refine bodyPost_ret (v := .agg #[.int .i64 1, .int .u64 0, .int .u64 0, .int .u64 0, .int .u64 0, .int .i64 i]) (by simp [results, Tryz.results32, go_sem, q0, q1, q2, q3, q4, q5]) rfl ⟨rfl, HB.out⟩
end Go.Proofs.YtodnlcbnbkkanaaGreatDoor
end
section
namespace Go.Proofs.YtodnlcbnbkkanaaGreatDoor
open Go Go.RowKit

end Go.Proofs.YtodnlcbnbkkanaaGreatDoor
end
section
namespace Go.Proofs.YtodnlcbnbkkanaaGreatDoor
open Go Go.RowKit

structure RN (g : GramM) (w W : World) (S : List Int) : Prop where
  b0 : Blk W w.heap.size 27 (gramC g)
  b1 : Blk W (w.heap.size + 1) 3 (ints S)
  b : Below w.heap.size w W
structure RoundN (g : GramM) (S0 S : List Int) (j : Nat) (c : Bool) : Prop where
  len : S.length = g.sorts.length
  sound : SoundN g S
  no : c = false → S = S0 ∧ ∀ (i : Nat) (x : ProdM), i < j → g.prods[i]? = some x → okN S0 x
  yes : c = true → sizeN S < sizeN S0
def RShortPost (g : GramM) (w : World) (e : Ending) (w' : World) : Prop := ∃ S, ShortP g S ∧ e = .returned (.slice (some ⟨w.heap.size + 1, 0, none⟩) g.sorts.length g.sorts.length) ∧ Blk w' (w.heap.size + 1) 3 (ints S) ∧ Below w.heap.size w w'

end Go.Proofs.YtodnlcbnbkkanaaGreatDoor
end
section
namespace Go.Proofs.YtodnlcbnbkkanaaGreatDoor
open Go Go.RowKit

def nullL (S : List Int) : List Bool := S.map fun n => n == 0
theorem nullP_of {g : GramM} (hm : MayB g) {S : List Int} (h : ShortP g S) : NullP g (nullL S) := by
  refine ⟨by unfold nullL; rw [List.length_map]; exact h.1, fun k => ?_⟩
  unfold nullL
  rw [List.getElem?_map]
  constructor
  · intro hk
    obtain ⟨n, hn, h0⟩ := Option.map_eq_some_iff.1 hk
    have h0' : n = 0 := by simpa using h0
    rcases h.2 k n hn with ⟨e, _⟩ | ⟨t, ht, e, _⟩
    · omega
    · have : t.length = 0 := by omega
      rw [List.length_eq_zero_iff.1 this] at ht
      exact ht
  · intro hk
    obtain ⟨x, hx, hr, hl, _⟩ := hk.out
    obtain ⟨k', e1, e2⟩ := hm.left x hx
    rw [e1, Int.toNat_natCast] at hl
    subst hl
    cases hS : S[k']? with
    | none => have := List.getElem?_eq_none_iff.1 hS; have := h.1; omega
    | some n =>
      rcases h.2 k' n hS with ⟨_, e⟩ | ⟨t, ht, e, h3⟩
      · exact absurd hk (e [])
      · have := h3 [] hk
        simp at this
        have : n = 0 := by omega
        rw [Option.map_some, this]; rfl
structure RNu (w : World) (N : Nat) (S M : List Int) (L : List Bool) (W : World) : Prop where
  b1 : Blk W (w.heap.size + 1 + 1) 3 (ints S)
  b2 : Blk W N 4 (bools L)
  b : Below w.heap.size w W
end Go.Proofs.YtodnlcbnbkkanaaGreatDoor
end
section
namespace Go.Proofs.YtodnlcbnbkkanaaGreatDoor
open Go Go.RowKit

theorem leadE_iff {g : GramM} {M L : List Bool} {k t : Nat} : LeadE g M L k t ↔ ∃ x, x ∈ livL g L ∧ ∃ (i : Nat) (s : SymM), x.right[i]? = some s ∧ s.kind = 1 ∧ AloneP M x i ∧ x.left = k ∧ s.sort = t := by
  unfold LeadE LeadU
  constructor
  · rintro ⟨j, i, x, hx, _, s, h1, h2, h3, h4⟩
    simp only [Prod.mk.injEq] at h4
    exact ⟨x, List.mem_of_getElem? hx, i, s, h1, h2, h3, h4.1.symm, h4.2.symm⟩
  · rintro ⟨x, hx, i, s, h1, h2, h3, h4, h5⟩
    obtain ⟨j, hj⟩ := List.mem_iff_getElem?.1 hx
    exact ⟨j, i, x, hj, .inl (List.getElem?_eq_some_iff.1 hj).1, s, h1, h2, h3, by rw [h4, h5]⟩

def GS (sa pa r0 r1 r3 r4 : Option Addr) : GramM := ⟨sa, 3, [⟨#[83]⟩, ⟨#[65]⟩, ⟨#[66]⟩], pa, 5,
  [⟨0, r0, 2, [⟨1, 0, 1⟩, ⟨1, 0, 0⟩], ⟨#[]⟩, 0, false, false, -1⟩, ⟨0, r1, 1, [⟨0, lx, 0⟩], ⟨#[]⟩, 0, false, false, -1⟩, ⟨1, none, 0, [], ⟨#[]⟩, 0, false, false, -1⟩, ⟨1, r3, 2, [⟨0, la, 0⟩, ⟨1, 0, 1⟩], ⟨#[]⟩, 0, false, false, -1⟩, ⟨2, r4, 1, [⟨1, 0, 2⟩], ⟨#[]⟩, 0, false, false, -1⟩],
  0, none, 0, [], none, 0, []⟩
section
variable (sa pa r0 r1 r3 r4 : Option Addr)
theorem GS_check : checkB (GS sa pa r0 r1 r3 r4) = true := by kernel_rfl
theorem GS_mem {x : ProdM} (h : x ∈ (GS sa pa r0 r1 r3 r4).prods) : x = ⟨0, r0, 2, [⟨1, 0, 1⟩, ⟨1, 0, 0⟩], ⟨#[]⟩, 0, false, false, -1⟩ ∨ x = ⟨0, r1, 1, [⟨0, lx, 0⟩], ⟨#[]⟩, 0, false, false, -1⟩ ∨ x = ⟨1, none, 0, [], ⟨#[]⟩, 0, false, false, -1⟩ ∨ x = ⟨1, r3, 2, [⟨0, la, 0⟩, ⟨1, 0, 1⟩], ⟨#[]⟩, 0, false, false, -1⟩ ∨ x = ⟨2, r4, 1, [⟨1, 0, 2⟩], ⟨#[]⟩, 0, false, false, -1⟩ := by
  simpa [GS] using h
theorem GS_t1 : TX (GS sa pa r0 r1 r3 r4) 1 [] := TX.mk (g := GS sa pa r0 r1 r3 r4) (x := ⟨1, none, 0, [], ⟨#[]⟩, 0, false, false, -1⟩) (by simp [GS]) (show (0 : Int) ≠ 11 by decide) rfl
theorem GS_t0 : TX (GS sa pa r0 r1 r3 r4) 0 [120] := TX.mk (g := GS sa pa r0 r1 r3 r4) (x := ⟨0, r1, 1, [⟨0, lx, 0⟩], ⟨#[]⟩, 0, false, false, -1⟩) (by simp [GS]) (show (0 : Int) ≠ 11 by decide) ⟨[120], [], rfl, .inr ⟨by decide, 120, rfl, by decide +kernel⟩, rfl⟩
theorem GS_short : ShortP (GS sa pa r0 r1 r3 r4) [1, 0, -1] := by
  refine shortP_of (mayB_of (GS_check sa pa r0 r1 r3 r4)) (by simp [GS]) ?_ ?_
  · intro k n hk
    match k with
    | 0 => simp at hk; subst hk; exact .inr ⟨[120], GS_t0 sa pa r0 r1 r3 r4, by decide⟩
    | 1 => simp at hk; subst hk; exact .inr ⟨[], GS_t1 sa pa r0 r1 r3 r4, by decide⟩
    | 2 => simp at hk; subst hk; exact .inl rfl
    | k + 3 => simp at hk
  · intro x hx
    rcases GS_mem _ _ _ _ _ _ hx with rfl | rfl | rfl | rfl | rfl
    · intro _ _; exact ⟨by dsimp only; decide, by dsimp only; decide +kernel⟩
    · intro _ _; exact ⟨by dsimp only; decide, by dsimp only; decide +kernel⟩
    · intro _ _; exact ⟨by dsimp only; decide, by dsimp only; decide +kernel⟩
    · intro _ _; exact ⟨by dsimp only; decide, by dsimp only; decide +kernel⟩
    · intro _ h; exact absurd h (by dsimp only; decide +kernel)
theorem GS_isS {S : List Int} (h : ShortP (GS sa pa r0 r1 r3 r4) S) : S = [1, 0, -1] := h.unique (GS_short sa pa r0 r1 r3 r4)
theorem GS_isN {M : List Bool} (h : NullP (GS sa pa r0 r1 r3 r4) M) : M = [false, true, false] := h.unique (nullP_of (mayB_of (GS_check sa pa r0 r1 r3 r4)) (GS_short sa pa r0 r1 r3 r4))
theorem GS_live : Live (GS sa pa r0 r1 r3 r4) [true, true, false] := by
  have hs := maySet_of (GS_check sa pa r0 r1 r3 r4)
  refine live_of (by simp [GS]) ?_ ?_
  · intro k hk
    match k with
    | 0 => exact (pv_iff hs).2 ⟨_, GS_t0 sa pa r0 r1 r3 r4⟩
    | 1 => exact (pv_iff hs).2 ⟨_, GS_t1 sa pa r0 r1 r3 r4⟩
    | 2 => simp at hk
    | k + 3 => simp at hk
  · intro x hx hok
    rcases GS_mem _ _ _ _ _ _ hx with rfl | rfl | rfl | rfl | rfl
    · rfl
    · rfl
    · rfl
    · rfl
    · exact absurd (hok.symm.trans (show okP [true, true, false] ⟨2, r4, 1, [⟨1, 0, 2⟩], ⟨#[]⟩, 0, false, false, -1⟩ = false from rfl)) (by decide)
theorem GS_lead {k t : Nat} : LeadE (GS sa pa r0 r1 r3 r4) [false, true, false] [true, true, false] k t ↔ k = 0 ∧ t = 0 := by
  rw [leadE_iff]
  constructor
  · rintro ⟨x, hx, i, s, h1, h2, h3, h4, h5⟩
    have hx' := livL_mem.1 hx
    rcases GS_mem _ _ _ _ _ _ hx'.1 with rfl | rfl | rfl | rfl | rfl
    · match i with
      | 0 =>
        have := h3 1 ⟨1, 0, 0⟩ rfl (by decide)
        exact absurd this (by decide)
      | 1 =>
        simp at h1
        subst h1
        simp at h4 h5
        omega
      | i + 2 => simp at h1
    · match i with
      | 0 => simp at h1; subst h1; simp at h2
      | i + 1 => simp at h1
    · simp at h1
    · match i with
      | 0 => simp at h1; subst h1; simp at h2
      | 1 =>
        have := h3 0 ⟨0, la, 0⟩ rfl (by decide)
        exact absurd this (by decide)
      | i + 2 => simp at h1
    · exact absurd hx'.2.2 (by dsimp only; decide)
  · rintro ⟨rfl, rfl⟩
    refine ⟨⟨0, r0, 2, [⟨1, 0, 1⟩, ⟨1, 0, 0⟩], ⟨#[]⟩, 0, false, false, -1⟩, livL_mem.2 ⟨by simp [GS], (show (0 : Int) ≠ 11 by decide), by dsimp only; decide⟩, 1, ⟨1, 0, 0⟩, rfl, rfl, fun i s hi hne => ?_, rfl, rfl⟩
    match i with
    | 0 => simp at hi; subst hi; rfl
    | 1 => exact absurd rfl hne
    | i + 2 => simp at hi
theorem GS_circ {R : List Bool} (h : CircP (GS sa pa r0 r1 r3 r4) R) : R = [true, false, false] := by
  obtain ⟨hl, M, L, hM, hL, hR⟩ := h
  obtain rfl := GS_isN _ _ _ _ _ _ hM
  obtain rfl := hL.unique (GS_live sa pa r0 r1 r3 r4)
  have hl3 : R.length = 3 := hl
  have hno : ∀ {a b : Nat}, Far (LeadE (GS sa pa r0 r1 r3 r4) [false, true, false] [true, true, false]) a b → a = 0 ∧ b = 0 := fun h => by
    induction h with
    | one e => exact (GS_lead _ _ _ _ _ _).1 e
    | more _ e ih => exact ⟨ih.1, ((GS_lead _ _ _ _ _ _).1 e).2⟩
  have h0 : R[0]? = some true := (hR 0 (by simp [GS])).2 (.one ((GS_lead _ _ _ _ _ _).2 ⟨rfl, rfl⟩))
  have h1 : R[1]? ≠ some true := fun h => by have := hno ((hR 1 (by simp [GS])).1 h); omega
  have h2 : R[2]? ≠ some true := fun h => by have := hno ((hR 2 (by simp [GS])).1 h); omega
  match R, hl3 with
  | [a, b, c], _ =>
    simp at h0 h1 h2
    rw [h0, h1, h2]
theorem GS_lt {t : List UInt8} (h : LT (GS sa pa r0 r1 r3 r4) 0 t) : t = [120] := by
  have key : ∀ {k : Nat} {t : List UInt8}, TX (GS sa pa r0 r1 r3 r4) k t → k = 0 → code [120] ≤ code t := fun {k t} ht => by
    refine TX.ind (P := fun k t => k = 0 → code [120] ≤ code t) (fun x t hx hr _ h2 => ?_) ht
    rcases GS_mem _ _ _ _ _ _ hx with rfl | rfl | rfl | rfl | rfl
    · intro _
      obtain ⟨a, b, rfl, _, c, d, rfl, h3, h4⟩ := h2
      cases h4
      rcases h3 with ⟨_, h3⟩ | ⟨h3, _⟩
      · have := h3 rfl
        rw [List.append_nil]
        exact Nat.le_trans this (code_right a c)
      · exact absurd rfl h3
    · intro _
      obtain ⟨a, b, rfl, h3, h4⟩ := h2
      cases h4
      rcases h3 with ⟨h3, _⟩ | ⟨_, c, rfl, hc⟩
      · cases h3
      · have : c = 120 := by
          have hc2 : (1#256 <<< 120).getLsbD c.toNat = true := hc
          rw [BitVec.getLsbD_shiftLeft] at hc2
          simp at hc2
          exact UInt8.toNat_inj.1 (show c.toNat = 120 by omega)
        rw [this]
        exact Nat.le_refl _
    · intro h; cases h
    · intro h; cases h
    · intro h; cases h
  have h0 := key h.1 rfl
  exact code_inj (Nat.le_antisymm (h.2 _ (GS_t0 sa pa r0 r1 r3 r4)) h0)
end
end Go.Proofs.YtodnlcbnbkkanaaGreatDoor
end
