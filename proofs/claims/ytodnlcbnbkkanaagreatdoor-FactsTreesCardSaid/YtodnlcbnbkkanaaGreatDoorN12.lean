import Derived.Deep.RegionHeld2
import Derived.Test.YtodnlcbnbkkanaaGreatDoorN2
import Derived.Test.YtodnlcbnbkkanaaGreatDoorN3
import Derived.Test.YtodnlcbnbkkanaaGreatDoorN4
import Derived.Test.YtodnlcbnbkkanaaGreatDoorN9
import Derived.Test.YtodnlcbnbkkanaaGreatDoorN10
import Derived.Test.YtodnlcbnbkkanaaGreatDoorN11
section
namespace Go.Proofs.YtodnlcbnbkkanaaGreatDoor
open Go Go.RowKit

def BacksPost (g : GramM) (w : World) (e : Ending) (w' : World) : Prop := ∃ (B : List BackM) (Bb : Nat), BackP g B ∧ e = .returned (.slice (some ⟨Bb, 0, none⟩) g.sorts.length g.sorts.length) ∧ w.heap.size ≤ Bb ∧ Blk w' Bb 123 (backsC B) ∧ Below w.heap.size w w'
def put6 (W : World) (B o : Nat) (t : BackM) : World := (((((W.setCell ⟨B, o, none⟩ (.bool t.there)).setCell ⟨B, o + 1, none⟩ (.int .u64 (wdI t.bytes 0))).setCell ⟨B, o + 2, none⟩ (.int .u64 (wdI t.bytes 1))).setCell ⟨B, o + 3, none⟩ (.int .u64 (wdI t.bytes 2))).setCell ⟨B, o + 4, none⟩ (.int .u64 (wdI t.bytes 3))).setCell ⟨B, o + 5, none⟩ (.bool t.fin)
theorem put6_blk {W : World} {B k : Nat} {F : List BackM} {t : BackM} (h : Blk W B 123 (backsC F)) (hk : k < F.length) : Blk (put6 W B (k * 6) t) B 123 (backsC (F.set k t)) := by
  have h6 : Blk (put6 W B (k * 6) t) B 123 _ := (((((h.set (k * 6) (.bool t.there)).set (k * 6 + 1) (.int .u64 (wdI t.bytes 0))).set (k * 6 + 2) (.int .u64 (wdI t.bytes 1))).set (k * 6 + 3) (.int .u64 (wdI t.bytes 2))).set (k * 6 + 4) (.int .u64 (wdI t.bytes 3))).set (k * 6 + 5) (.bool t.fin)
  have hz : k * 6 + 6 ≤ (backsC F).size := by rw [backsC_size]; omega
  rw [backsC_put (t := t) hk (ds := ((((((backsC F).setIfInBounds (k * 6) (.bool t.there)).setIfInBounds (k * 6 + 1) (.int .u64 (wdI t.bytes 0))).setIfInBounds (k * 6 + 2) (.int .u64 (wdI t.bytes 1))).setIfInBounds (k * 6 + 3) (.int .u64 (wdI t.bytes 2))).setIfInBounds (k * 6 + 4) (.int .u64 (wdI t.bytes 3))).setIfInBounds (k * 6 + 5) (.bool t.fin)) (by simp only [Array.size_setIfInBounds]) (fun j hj => by
    rw [Array.getElem?_setIfInBounds_ne (by omega), Array.getElem?_setIfInBounds_ne (by omega), Array.getElem?_setIfInBounds_ne (by omega), Array.getElem?_setIfInBounds_ne (by omega), Array.getElem?_setIfInBounds_ne (by omega), Array.getElem?_setIfInBounds_ne (by omega)]) (backAt_of (by
      rw [Array.getElem?_setIfInBounds_ne (by omega), Array.getElem?_setIfInBounds_ne (by omega), Array.getElem?_setIfInBounds_ne (by omega), Array.getElem?_setIfInBounds_ne (by omega), Array.getElem?_setIfInBounds_ne (by omega), Array.getElem?_setIfInBounds_self_of_lt (by omega)]) (setAt_of fun j hj => by
      have : j = 0 ∨ j = 1 ∨ j = 2 ∨ j = 3 := by omega
      rcases this with rfl | rfl | rfl | rfl
      · rw [Array.getElem?_setIfInBounds_ne (by omega), Array.getElem?_setIfInBounds_ne (by omega), Array.getElem?_setIfInBounds_ne (by omega), Array.getElem?_setIfInBounds_ne (by omega), Nat.add_zero, Array.getElem?_setIfInBounds_self_of_lt (by simp only [Array.size_setIfInBounds]; omega)]
      · rw [Array.getElem?_setIfInBounds_ne (by omega), Array.getElem?_setIfInBounds_ne (by omega), Array.getElem?_setIfInBounds_ne (by omega), Array.getElem?_setIfInBounds_self_of_lt (by simp only [Array.size_setIfInBounds]; omega)]
      · rw [Array.getElem?_setIfInBounds_ne (by omega), Array.getElem?_setIfInBounds_ne (by omega), Array.getElem?_setIfInBounds_self_of_lt (by simp only [Array.size_setIfInBounds]; omega)]
      · rw [Array.getElem?_setIfInBounds_ne (by omega), Array.getElem?_setIfInBounds_self_of_lt (by simp only [Array.size_setIfInBounds]; omega)]) (by rw [Array.getElem?_setIfInBounds_self_of_lt (by simp only [Array.size_setIfInBounds]; omega)]))] at h6
  exact h6
theorem put6_low {N : Nat} {w W : World} {B o : Nat} {t : BackM} (h : Below N w W) (hB : N ≤ B) : Below N w (put6 W B o t) :=
  (((((h.setCell (p := ⟨B, o, none⟩) hB _).setCell (p := ⟨B, o + 1, none⟩) hB _).setCell (p := ⟨B, o + 2, none⟩) hB _).setCell (p := ⟨B, o + 3, none⟩) hB _).setCell (p := ⟨B, o + 4, none⟩) hB _).setCell (p := ⟨B, o + 5, none⟩) hB _
theorem put6_other {W : World} {B o C t : Nat} {b : BackM} {cs : Array Value} (h : Blk W C t cs) (hne : C ≠ B) : Blk (put6 W B o b) C t cs :=
  (((((h.other (a := ⟨B, o, none⟩) hne _).other (a := ⟨B, o + 1, none⟩) hne _).other (a := ⟨B, o + 2, none⟩) hne _).other (a := ⟨B, o + 3, none⟩) hne _).other (a := ⟨B, o + 4, none⟩) hne _).other (a := ⟨B, o + 5, none⟩) hne _
theorem noB_sound (W : List UInt8 → Prop) : SnH W noB := ⟨fun e => (by cases e), fun c e => (by simp [noB] at e), fun e => (by cases e)⟩
theorem soundB_none {g : GramM} (hs : MaySet g) (n : Nat) (h : ¬ PV g g.start.toNat) : SoundB g (List.replicate n noB) := by
  refine ⟨fun k b hk => ?_, fun ht => absurd ((pv_iff hs).2 ht) h⟩
  rw [List.getElem?_replicate] at hk
  split at hk
  · cases hk; exact noB_sound _
  · cases hk
theorem soundB_start {g : GramM} (hs : MaySet g) (n : Nat) (h : PV g g.start.toNat) (hn : g.start.toNat < n) : SoundB g ((List.replicate n noB).set g.start.toNat ⟨true, 0#256, true⟩) := by
  have hc := Ctx.start ((pv_iff hs).1 h)
  refine ⟨fun k b hk => ?_, fun _ => ⟨⟨true, 0#256, true⟩, List.getElem?_set_self (by simpa using hn), rfl, rfl⟩⟩
  rw [List.getElem?_set] at hk
  split at hk
  · next e =>
    split at hk
    · cases hk; subst e
      exact ⟨fun _ => ⟨[], hc⟩, fun c e => (by simp at e), fun _ => hc⟩
    · cases hk
  · rw [List.getElem?_replicate] at hk
    split at hk
    · cases hk; exact noB_sound _
    · cases hk

set_option maxRecDepth 100000 in
set_option maxHeartbeats 8000000 in
theorem backs_any (g : GramM) (hm : MayB g) (hs : MaySet g) (hf : Fit g) (w : World) (hg : GIn w g) : Calls Tryz.prog 79 #[gramV g] w (BacksPost g w) := by
  obtain ⟨st, hst, hstn⟩ := hm.start
  obtain ⟨W, hW⟩ : ∃ W, W = w.alloc (.cells (gramC g) 27) := ⟨_, rfl⟩
  have HW := Lib.hid hW
  have hlow : Below w.heap.size w W := by rw [hW]; exact (Below.refl _ _).alloc (Nat.le_refl _) _
  have hb : Blk W w.heap.size 27 (gramC g) := by rw [hW]; exact Blk.new w 27 _
  have HL := Lib.hid (And.intro hlow hb)
  have HMA := Lib.hid (And.intro hm (And.intro hs (And.intro hf hg)))
  have HLi := Lib.hid (fun V (hV : Below w.heap.size w V) => living_any g hm hf V (hg.below hV))
  have HSt := Lib.hid (And.intro hst hstn)
  clear hm hs hf hg hW hlow hb
  unfold gramV
  unfold gramV at HLi
  have HGC : Hid (gramC g = #[.slice g.sa g.sorts.length g.sc, .slice g.pa g.prods.length g.pc, .int .i64 g.start, .slice g.fa g.forbid.length g.fc, .slice g.wa g.follow.length g.wc]) := Lib.hid rfl
  go_enter Tryz.func79, Tryz.ntmps79
  go_upto_region 1 with fail
  rw [← HW.out]
  refine r1_any g HMA.out.1 HMA.out.2.1 HMA.out.2.2.1 w W HMA.out.2.2.2 HL.out.1 HL.out.2 (fun X V hV h118 h120 => ?_)
  unfold actB
  rename_i K hK
  refine hK _ _ ?_
  clear hK K
  go_wp2
  have hV2 : Below w.heap.size w V := HL.out.1.trans (hV.mono HL.out.1.size)
  refine r2_any g HMA.out.1 HMA.out.2.2.1 w V HMA.out.2.2.2 hV2 (HL.out.2.below hV HL.out.2.lt) (fun j => if j < 11 then X j else undef) (fun X2 V2 b hB2 e3 e4 e16 hbP => ?_)
  unfold actC
  rename_i K hK
  refine hK _ _ ?_
  clear hK K
  have e3 : X2 3 = X 3 := e3
  have e4 : X2 4 = X 4 := e4
  obtain ⟨Bx, u, v, p1, p2, p3, F, M, Bf, Be, hF, hM, huv, q4, q5, q6, q7⟩ := h118
  obtain ⟨Bh, u', r1, r2, r3, Bb, hu', r5, r6⟩ := h120
  have huv : u = .slice (some ⟨Bf, 0, none⟩) g.sorts.length g.sorts.length ∧ v = .slice (some ⟨Be, 0, none⟩) g.sorts.length g.sorts.length := by simpa using huv
  obtain ⟨rfl, rfl⟩ := huv
  subst hu'
  rw [e3, e4, e16, p1, r1]
  have hlow2 : Below w.heap.size w V2 := hV2.trans (hB2.mono hV2.size)
  have b27 := HL.out.2.below hV HL.out.2.lt
  have k27 := b27.below hB2 b27.lt
  have kx := p3.below hB2 p3.lt
  have kh := r3.below hB2 r3.lt
  have kb := r6.below hB2 r6.lt
  have kf := q6.below hB2 q6.lt
  have ke := q7.below hB2 q7.lt
  have hwW : w.heap.size < W.heap.size := HL.out.2.lt
  have HF := Lib.hid (And.intro hF hM)
  -- what is left, from the settled blocks on
  have HRest : Hid (∀ (B : List BackM) (V3 : World) (L : List Bool) (a : Option Addr) (c : Nat), Below w.heap.size w V3 → Blk V3 Bh 120 #[.slice (some ⟨Bb, 0, none⟩) g.sorts.length g.sorts.length] → Blk V3 Bx 118 #[.slice (some ⟨Bf, 0, none⟩) g.sorts.length g.sorts.length, .slice (some ⟨Be, 0, none⟩) g.sorts.length g.sorts.length] → Blk V3 Bb 123 (backsC B) → Blk V3 Bf 47 (setsC F) → Blk V3 Be 4 (bools M) → B.length = g.sorts.length → SoundB g B → Live g L → ∀ V4, OwnP V3.heap.size V4 a c (livL g L) → Below V3.heap.size V3 V4 → Calls Tryz.prog 67 #[.slice a (livL g L).length c, .func (.func 106) #[] #[.pointer (some ⟨Bh, 0, none⟩), .pointer (some ⟨Bx, 0, none⟩)]] V4 fun e w' => e = .returned (.tuple #[]) ∧ ∃ B', BackP g B' ∧ Below w.heap.size w w' ∧ Blk w' Bh 120 #[.slice (some ⟨Bb, 0, none⟩) g.sorts.length g.sorts.length] ∧ Blk w' Bb 123 (backsC B')) := Lib.hid (fun B V3 L a c h1 h2 h3 h4 h5 h6 h7 h8 hL V4 hO hB => by
    have hJ0 : KJ g w V3.heap.size Bh Bx Bb Bf Be g.sorts.length a c M L F B V4 := ⟨h2.below hB h2.lt, h3.below hB h3.lt, h4.below hB h4.lt, h5.below hB h5.lt, h6.below hB h6.lt, h7, h8, h1.trans (hB.mono h1.size), hO, by omega, h4.lt⟩
    refine (settle_any (livL g L) a c 106 #[.pointer (some ⟨Bh, 0, none⟩), .pointer (some ⟨Bx, 0, none⟩)] (fun _ _ => by kernel_rfl) (KJ g w V3.heap.size Bh Bx Bb Bf Be g.sorts.length a c M L F) (QuietB F M) sizeB (Nat.le_trans (livL_len g L) (Nat.le_trans HMA.out.1.prods (by omega))) (fun B W h => h.prods HMA.out.2.2.2) (fun B W V h hB => h.below hB) (backs_steps HMA.out.1 HMA.out.2.1 HMA.out.2.2.2 HF.out.2 hL HF.out.1) B V4 hJ0).mono ?_
    rintro e w' ⟨rfl, B', hJ, hq⟩
    exact ⟨rfl, B', backP_of HMA.out.1 HMA.out.2.1 HF.out.2 hL HF.out.1 hJ.len hJ.snd hq, hJ.low, hJ.bh, hJ.bb⟩)
  have hstn := HSt.out.2
  have hst := HSt.out.1
  have hstN : g.start.toNat = st := by rw [hst, Int.toNat_natCast]
  have hBb : w.heap.size ≤ Bb := by omega
  have HG2 : Hid (gramC g = #[.slice g.sa g.sorts.length g.sc, .slice g.pa g.prods.length g.pc, .int .i64 (st : Int), .slice g.fa g.forbid.length g.fc, .slice g.wa g.follow.length g.wc]) := Lib.hid (by rw [← hst]; rfl)
  have kz0 : (0 : Int) ≤ (st : Int) := by omega
  have kz1 : (st : Int) < (g.sorts.length : Int) := by omega
  clear hst HGC
  cases b with
  | false =>
    have hsnd := soundB_none (g := g) HMA.out.2.1 g.sorts.length (fun h => by have := hbP.2 h; cases this)
    rw [HG2.out] at k27
    obtain ⟨c0, c1, c2, c3, c4⟩ := cells5s k27
    have cl := k27.lt
    have HR := Lib.hid (fun L a c hL V4 hO hB => HRest.out (List.replicate g.sorts.length noB) V2 L a c hlow2 kh kx kb kf ke (by simp) hsnd hL V4 hO hB)
    have HL1 := HLi.out V2 hlow2
    unfold LivPost at HL1
    rw [HG2.out] at HL1
    have HL1 := Lib.hid HL1
    clear HLi HRest hsnd hbP k27 kx kh kb kf ke hlow2 hB2 hV hV2 b27 p3 r3 r6 q6 q7 hF hM
    go_wp2_with fail
    refine HL1.out.mono ?_
    rintro e w3 ⟨L, a, c, hL, rfl, hO, hB⟩
    have HR1 := Lib.hid (HR.out L a c hL w3 hO hB)
    clear HR hO hB HL1 c0 c1 c2 c3 c4
    go_wp2_with fail
    refine HR1.out.mono ?_
    rintro e w4 ⟨rfl, B', hP, hl4, hbh, hbb⟩
    have g0 := hbh.cell 0
    have gl := hbh.lt
    simp only [List.getElem?_toArray, List.getElem?_cons_zero] at g0
    have HE : Hid (BackP g B' ∧ Blk w4 Bb 123 (backsC B') ∧ Below w.heap.size w w4) := Lib.hid ⟨hP, hbb, hl4⟩
    clear hP hbb hl4 HR1 hbh
    go_wp2
    go_ret
    exact ⟨B', Bb, HE.out.1, rfl, hBb, HE.out.2.1, HE.out.2.2⟩
  | true =>
    have hsnd := soundB_start (g := g) HMA.out.2.1 g.sorts.length (hbP.1 rfl) (by rw [hstN]; exact hstn)
    rw [hstN] at hsnd
    rw [HG2.out] at k27
    obtain ⟨V3, hV3⟩ : ∃ V3, V3 = put6 V2 Bb (st * 6) ⟨true, 0#256, true⟩ := ⟨_, rfl⟩
    have hp : ∀ {C t : Nat} {cs : Array Value}, Blk V2 C t cs → C ≠ Bb → Blk V3 C t cs := fun h e => by rw [hV3]; exact put6_other h e
    have m27 := hp k27 (by omega)
    have mx := hp kx (blk_ne kx kb (by decide))
    have mh := hp kh (blk_ne kh kb (by decide))
    have mf := hp kf (blk_ne kf kb (by decide))
    have me := hp ke (blk_ne ke kb (by decide))
    have mb : Blk V3 Bb 123 (backsC ((List.replicate g.sorts.length noB).set st ⟨true, 0#256, true⟩)) := by rw [hV3]; exact put6_blk kb (by simpa using hstn)
    have mlow : Below w.heap.size w V3 := by rw [hV3]; exact put6_low hlow2 hBb
    have HV3 : Hid (V3 = (((((V2.setCell ⟨Bb, st * 6, none⟩ (.bool true)).setCell ⟨Bb, st * 6 + 1, none⟩ (.int .u64 0)).setCell ⟨Bb, st * 6 + 2, none⟩ (.int .u64 0)).setCell ⟨Bb, st * 6 + 3, none⟩ (.int .u64 0)).setCell ⟨Bb, st * 6 + 4, none⟩ (.int .u64 0)).setCell ⟨Bb, st * 6 + 5, none⟩ (.bool true)) := Lib.hid (by rw [hV3]; unfold put6; simp only [wdI_zero])
    have HR := Lib.hid (fun L a c hL V4 hO hB => HRest.out ((List.replicate g.sorts.length noB).set st ⟨true, 0#256, true⟩) V3 L a c mlow mh mx mb mf me (by simp) hsnd hL V4 hO hB)
    have HL1 := HLi.out V3 mlow
    unfold LivPost at HL1
    rw [HG2.out] at HL1
    have HL1 := Lib.hid HL1
    have HM27 := Lib.hid m27
    obtain ⟨c0, c1, c2, c3, c4⟩ := cells5s k27
    have cl := k27.lt
    have g0 := kh.cell 0
    have gl := kh.lt
    simp only [List.getElem?_toArray, List.getElem?_cons_zero] at g0
    have hba := backsC_at (L := List.replicate g.sorts.length noB) (k := st) (b := noB) (by rw [List.getElem?_replicate, if_pos hstn])
    obtain ⟨o0, oS, o5⟩ := hba.cells
    have d0 := (kb.cell (st * 6)).trans o0
    have d1 := (kb.cell (st * 6 + 1 + 0)).trans (set_cell oS (j := 0) (by decide))
    have d2 := (kb.cell (st * 6 + 1 + 1)).trans (set_cell oS (j := 1) (by decide))
    have d3 := (kb.cell (st * 6 + 1 + 2)).trans (set_cell oS (j := 2) (by decide))
    have d4 := (kb.cell (st * 6 + 1 + 3)).trans (set_cell oS (j := 3) (by decide))
    have d5 := (kb.cell (st * 6 + 5)).trans o5
    simp only [Nat.add_zero, Nat.add_assoc, Nat.reduceAdd] at d1 d2 d3 d4
    have f0 := kb.frozen (st * 6)
    have f1 := kb.frozen (st * 6 + 1)
    have f2 := kb.frozen (st * 6 + 2)
    have f3 := kb.frozen (st * 6 + 3)
    have f4 := kb.frozen (st * 6 + 4)
    have f5 := kb.frozen (st * 6 + 5)
    have dl := kb.lt
    clear HLi HRest hsnd hbP k27 kx kh kb kf ke hlow2 hB2 hV hV2 b27 p3 r3 r6 q6 q7 hF hM hV3 hp m27 mx mh mf me mb mlow hba o0 oS o5
    go_upto_region 4 with fail
    rw [← HV3.out]
    clear c0 c1 c2 c3 c4 cl g0 gl d0 d1 d2 d3 d4 d5 f0 f1 f2 f3 f4 f5 dl
    obtain ⟨c0, c1, c2, c3, c4⟩ := cells5s HM27.out
    have cl := HM27.out.lt
    go_wp2_with fail
    refine HL1.out.mono ?_
    rintro e w3 ⟨L, a, c, hL, rfl, hO, hB⟩
    have HR1 := Lib.hid (HR.out L a c hL w3 hO hB)
    clear HR hO hB HL1 c0 c1 c2 c3 c4
    go_wp2_with fail
    refine HR1.out.mono ?_
    rintro e w4 ⟨rfl, B', hP, hl4, hbh, hbb⟩
    have g0 := hbh.cell 0
    have gl := hbh.lt
    simp only [List.getElem?_toArray, List.getElem?_cons_zero] at g0
    have HE : Hid (BackP g B' ∧ Blk w4 Bb 123 (backsC B') ∧ Below w.heap.size w w4) := Lib.hid ⟨hP, hbb, hl4⟩
    clear hP hbb hl4 HR1 hbh
    go_wp2
    go_ret
    exact ⟨B', Bb, HE.out.1, rfl, hBb, HE.out.2.1, HE.out.2.2⟩
end Go.Proofs.YtodnlcbnbkkanaaGreatDoor
end
section
namespace Go.Proofs.YtodnlcbnbkkanaaGreatDoor
open Go Go.RowKit

def FollowP (g : GramM) (F : List BS) : Prop := ∃ B, BackP g B ∧ F = B.map (·.bytes)
set_option maxRecDepth 100000 in
set_option maxHeartbeats 8000000 in
theorem follow_any (g : GramM) (hm : MayB g) (hs : MaySet g) (hf : Fit g) (w : World) (hg : GIn w g) : Calls Tryz.prog 54 #[gramV g] w (SetsPost w (FollowP g)) := by
  have hB1 : Below w.heap.size w (w.alloc (.cells (gramC g) 27)) := (Below.refl _ _).alloc (Nat.le_refl _) _
  have HC := Lib.hid (backs_any g hm hs hf _ (hg.below hB1))
  have HB := Lib.hid hB1
  have Hs1 := Lib.hid (And.intro hm.sorts1 hm.sorts2)
  unfold BacksPost at HC
  obtain ⟨n, hn⟩ : ∃ n, n = g.sorts.length := ⟨_, rfl⟩
  have hn1 : n ≤ 1000 := by rw [hn]; exact hm.sorts2
  have HN := Lib.hid hn
  obtain ⟨i0, hi, hz0, hz1, hz2⟩ := info_parts info47
  clear hm hs hf hg hB1
  unfold gramV gramC at *
  rw [← hn] at HC HB ⊢
  clear hn
  go_enter Tryz.func54, Tryz.ntmps54
  go_wp2_with fail
  refine HC.out.mono ?_
  rintro e w2 ⟨B, Bb, hP, rfl, hb1, hk, hB2⟩
  have HP := Lib.hid hP
  have hBn : B.length = n := by rw [hP.1, HN.out]
  have HK0 := Lib.hid hk
  have HB0 := Lib.hid (HB.out.trans (hB2.mono HB.out.size))
  have hbl := hk.lt
  have hw2 := HB0.out.size
  clear hP hb1 hk hB2 HC
  go_wp2
  go_loopw [3, 9] (fun v i wr => ∃ (k : Nat), i = .int .i64 k ∧ k ≤ n ∧ Hid (wr.ownsRow w2.heap.size 47 4 v k (cellsL cset ((B.take k).map (·.bytes)))) ∧ Hid (Blk wr Bb 123 (backsC B)) ∧ Hid (Below w.heap.size w wr) ∧ w2.heap.size ≤ wr.heap.size)
    (fun _ i _ => n - (intOf i).toNat)
  case atStart => exact ⟨0, rfl, Nat.zero_le _, Lib.hid (World.ownsRow_nil _ _ _ _), HK0, HB0, Nat.le_refl _⟩
  case round =>
    clear HB0 HK0
    obtain ⟨k, rfl, hk, hO, hK, hB, hsz⟩ := hrel
    by_cases hlt : k < n
    · obtain ⟨b, hb⟩ : ∃ b, B[k]? = some b := ⟨_, List.getElem?_eq_getElem (by omega)⟩
      have HT : Hid ((B.take (k + 1)).map (·.bytes) = (B.take k).map (·.bytes) ++ [b.bytes]) := Lib.hid (by rw [take_snoc B k b hb, List.map_append]; rfl)
      obtain ⟨o0, oS, o5⟩ := (backsC_at hb).cells
      have d0 := (hK.out.cell (k * 6)).trans o0
      have d1 := (hK.out.cell (k * 6 + 1 + 0)).trans (set_cell oS (j := 0) (by decide))
      have d2 := (hK.out.cell (k * 6 + 1 + 1)).trans (set_cell oS (j := 1) (by decide))
      have d3 := (hK.out.cell (k * 6 + 1 + 2)).trans (set_cell oS (j := 2) (by decide))
      have d4 := (hK.out.cell (k * 6 + 1 + 3)).trans (set_cell oS (j := 3) (by decide))
      have d5 := (hK.out.cell (k * 6 + 5)).trans o5
      simp only [Nat.add_zero, Nat.add_assoc, Nat.reduceAdd] at d1 d2 d3 d4
      have dl := hK.out.lt
      have n1 : (k : Int) < (n : Int) := by omega
      have n0 : (0 : Int) ≤ (k : Int) := by omega
      have HCN := cells_new (wr.alloc (.cells #[.bool b.there, .int .u64 (wdI b.bytes 0), .int .u64 (wdI b.bytes 1), .int .u64 (wdI b.bytes 2), .int .u64 (wdI b.bytes 3), .bool b.fin] 123)) #[.int .u64 (wdI b.bytes 0), .int .u64 (wdI b.bytes 1), .int .u64 (wdI b.bytes 2), .int .u64 (wdI b.bytes 3)] 47
      rw [World.size_alloc] at HCN
      have HCN := Lib.hid HCN
      clear o0 oS o5 hb
      go_wp2_with (at_builtin; refine wpList_append_own _ rfl (.tmp 13) (.tmp 16) 38 rfl w2.heap.size 47 i0 (.agg #[.int .u64 0, .int .u64 0, .int .u64 0, .int .u64 0]) 4 32 Tryz.underlying38 hi hz0 hz1 hz2 rfl (by decide) _ _ _ rfl ((hO.out.alloc _).alloc _) ⟨wr.heap.size + 1, 0, none⟩ 1 1 [.int .u64 (wdI b.bytes 0), .int .u64 (wdI b.bytes 1), .int .u64 (wdI b.bytes 2), .int .u64 (wdI b.bytes 3)] rfl rfl HCN.out (by simp [Value.oneCell']) (by unfold maxLen; omega) (by omega) (by simp; omega) ?_; intro v5 w5 hown5 hgrow5 _)
      have hf5 := own_fin ((hO.out.alloc _).alloc _) (((Below.refl w2.heap.size wr).alloc hsz _).alloc (by simp; omega) _) hsz hgrow5
      have hO5 : Hid (w5.ownsRow w2.heap.size 47 4 v5 (k + 1) (cellsL cset ((B.take (k + 1)).map (·.bytes)))) := Lib.hid (by
        rw [HT.out, cellsL_snoc]; exact hown5)
      have hK5 := Lib.hid (hK.out.below hf5 hbl)
      have hB5 := Lib.hid (hB.out.trans (hf5.mono hw2))
      have hs5 := Nat.le_trans hsz hf5.size
      clear hf5 hown5 hgrow5 hO hK hB d0 d1 d2 d3 d4 d5
      go_roundw
      case rel => exact ⟨k + 1, by go_num, by omega, hO5, hK5, hB5, hs5⟩
      case measure => simp [intOf]; omega
    · obtain rfl : k = n := by omega
      have hO2 := hO.out
      rw [List.take_of_length_le (by omega)] at hO2
      have hZ : Hid (∃ (Bo c : Nat) (cs : Array Value), u3 = .slice (some ⟨Bo, 0, none⟩) k c ∧ w.heap.size ≤ Bo ∧ Blk wr Bo 47 cs ∧ ∀ (j : Nat) (s : BS), (B.map (·.bytes))[j]? = some s → SetAt cs (j * 4) s) := Lib.hid (by
        rcases hO2.2 with ⟨_, h0⟩ | ⟨gB, cap, cur, h1, h2, h3, h4, h5, h6, h7⟩
        · have := Hs1.out.1
          have := HN.out
          omega
        · refine ⟨gB, cap, cur, h1, by omega, h3, fun j s hj i v hv => ?_⟩
          have hi4 : i < 4 := by
            have := (Array.getElem?_eq_some_iff.1 hv).1
            simpa [cset] using this
          have hjl : j < B.length := by
            have := (List.getElem?_eq_some_iff.1 hj).1
            simpa using this
          have h8 := cellsL_at (cs := cset) (k := 4) (fun _ => rfl) (B.map (·.bytes)) j s hj i hi4
          rw [← h7, List.getElem?_take, if_pos (by omega), hv, Array.getElem?_toList] at h8
          exact h8)
      have HF : Hid (FollowP g (B.map (·.bytes)) ∧ B.map (·.bytes) ≠ [] ∧ (B.map (·.bytes)).length = k) := Lib.hid ⟨⟨B, HP.out, rfl⟩, fun h => by
        have h := congrArg List.length h
        rw [List.length_map, List.length_nil] at h
        have := Hs1.out.1
        have := HN.out
        omega, by rw [List.length_map]; exact hBn⟩
      obtain ⟨Bo, c, cs, rfl, hz1', hz2', hz3'⟩ := hZ.out
      have HE := Lib.hid (And.intro hz1' (And.intro hz2' hz3'))
      clear hO hO2 hK hz1' hz2' hz3' hZ
      go_wp2
      go_ret
      exact ⟨_, Bo, c, cs, HF.out.1, HF.out.2.1, by rw [HF.out.2.2]; rfl, HE.out.1, HE.out.2.1, HE.out.2.2, hB.out⟩
end Go.Proofs.YtodnlcbnbkkanaaGreatDoor
end
section
namespace Go.Proofs.YtodnlcbnbkkanaaGreatDoor
open Go Go.RowKit

set_option maxRecDepth 100000 in
set_option maxHeartbeats 1000000 in
theorem Follow_any (g : GramM) (hf : FitG g) (w : World) (hg : GIn w g) : Calls Tryz.prog 23 #[gramV g] w (TellSets w g (FollowP g)) := by
  have hB1 : Below w.heap.size w (w.alloc (.cells (gramC g) 27)) := (Below.refl _ _).alloc (Nat.le_refl _) _
  have HC := Lib.hid (answerS_any g hf 54 (fun _ _ => by kernel_rfl) (FollowP g) _ (hg.below hB1) (fun h W hW => follow_any g (mayB_of h) (maySet_of h) hf.fit W hW))
  have HB := Lib.hid hB1
  clear hf hg hB1
  unfold gramV gramC at *
  go_enter Tryz.func23, Tryz.ntmps23
  go_wp2_with fail
  refine HC.out.mono ?_
  rintro e w3 ⟨hB3, ⟨hc, rfl⟩ | ⟨hc, F, B, c, cs, hR, hne, rfl, hBl, hk, hat⟩⟩
  · have HB3 := Lib.hid (HB.out.trans (hB3.mono HB.out.size))
    have Hc := Lib.hid hc
    clear hB3 hc HC
    go_wp2
    go_ret2
    exact ⟨HB3.out, .inl ⟨Hc.out, rfl⟩⟩
  · have HB3 := Lib.hid (HB.out.trans (hB3.mono HB.out.size))
    have Hc := Lib.hid hc
    have HR := Lib.hid (And.intro hR hne)
    have HBl : Hid (w.heap.size ≤ B) := Lib.hid (Nat.le_trans HB.out.size hBl)
    have HK := Lib.hid (And.intro hk hat)
    clear hB3 hc HC hR hne hBl hk hat
    go_wp2
    go_ret2
    exact ⟨HB3.out, .inr ⟨Hc.out, F, B, c, cs, HR.out.1, HR.out.2, rfl, HBl.out, HK.out.1, HK.out.2⟩⟩
end Go.Proofs.YtodnlcbnbkkanaaGreatDoor
end
section
namespace Go.Proofs.YtodnlcbnbkkanaaGreatDoor
open Go Go.RowKit

theorem info4e : (Tryz.prog.info? 4).map (fun i => (i.zero, i.size, i.bytes)) = some (some (.bool false), 1, 1) := by kernel_rfl
def mrkC (b : Bool) : Array Value := #[.bool b]
def EndsP (g : GramM) (E : List Bool) : Prop := ∃ B, BackP g B ∧ E = B.map (·.fin)
def BoolsPost (w : World) (R : List Bool → Prop) (e : Ending) (w' : World) : Prop := ∃ (F : List Bool) (B c : Nat) (cs : Array Value), R F ∧ F ≠ [] ∧ e = .returned (.slice (some ⟨B, 0, none⟩) F.length c) ∧ w.heap.size ≤ B ∧ Blk w' B 4 cs ∧ (∀ (k : Nat) (s : Bool), F[k]? = some s → cs[k]? = some (.bool s)) ∧ Below w.heap.size w w'

set_option maxRecDepth 100000 in
set_option maxHeartbeats 8000000 in
theorem ends_any (g : GramM) (hm : MayB g) (hs : MaySet g) (hf : Fit g) (w : World) (hg : GIn w g) : Calls Tryz.prog 55 #[gramV g] w (BoolsPost w (EndsP g)) := by
  have hB1 : Below w.heap.size w (w.alloc (.cells (gramC g) 27)) := (Below.refl _ _).alloc (Nat.le_refl _) _
  have HC := Lib.hid (backs_any g hm hs hf _ (hg.below hB1))
  have HB := Lib.hid hB1
  have Hs1 := Lib.hid (And.intro hm.sorts1 hm.sorts2)
  unfold BacksPost at HC
  obtain ⟨n, hn⟩ : ∃ n, n = g.sorts.length := ⟨_, rfl⟩
  have hn1 : n ≤ 1000 := by rw [hn]; exact hm.sorts2
  have HN := Lib.hid hn
  obtain ⟨i0, hi, hz0, hz1, hz2⟩ := info_parts info4e
  clear hm hs hf hg hB1
  unfold gramV gramC at *
  rw [← hn] at HC HB ⊢
  clear hn
  go_enter Tryz.func55, Tryz.ntmps55
  go_wp2_with fail
  refine HC.out.mono ?_
  rintro e w2 ⟨B, Bb, hP, rfl, hb1, hk, hB2⟩
  have HP := Lib.hid hP
  have hBn : B.length = n := by rw [hP.1, HN.out]
  have HK0 := Lib.hid hk
  have HB0 := Lib.hid (HB.out.trans (hB2.mono HB.out.size))
  have hbl := hk.lt
  have hw2 := HB0.out.size
  clear hP hb1 hk hB2 HC
  go_wp2
  go_loopw [3, 9] (fun v i wr => ∃ (k : Nat), i = .int .i64 k ∧ k ≤ n ∧ Hid (wr.ownsRow w2.heap.size 4 1 v k (cellsL mrkC ((B.take k).map (·.fin)))) ∧ Hid (Blk wr Bb 123 (backsC B)) ∧ Hid (Below w.heap.size w wr) ∧ w2.heap.size ≤ wr.heap.size)
    (fun _ i _ => n - (intOf i).toNat)
  case atStart => exact ⟨0, rfl, Nat.zero_le _, Lib.hid (World.ownsRow_nil _ _ _ _), HK0, HB0, Nat.le_refl _⟩
  case round =>
    clear HB0 HK0
    obtain ⟨k, rfl, hk, hO, hK, hB, hsz⟩ := hrel
    by_cases hlt : k < n
    · obtain ⟨b, hb⟩ : ∃ b, B[k]? = some b := ⟨_, List.getElem?_eq_getElem (by omega)⟩
      have HT : Hid ((B.take (k + 1)).map (·.fin) = (B.take k).map (·.fin) ++ [b.fin]) := Lib.hid (by rw [take_snoc B k b hb, List.map_append]; rfl)
      obtain ⟨o0, oS, o5⟩ := (backsC_at hb).cells
      have d0 := (hK.out.cell (k * 6)).trans o0
      have d1 := (hK.out.cell (k * 6 + 1 + 0)).trans (set_cell oS (j := 0) (by decide))
      have d2 := (hK.out.cell (k * 6 + 1 + 1)).trans (set_cell oS (j := 1) (by decide))
      have d3 := (hK.out.cell (k * 6 + 1 + 2)).trans (set_cell oS (j := 2) (by decide))
      have d4 := (hK.out.cell (k * 6 + 1 + 3)).trans (set_cell oS (j := 3) (by decide))
      have d5 := (hK.out.cell (k * 6 + 5)).trans o5
      simp only [Nat.add_zero, Nat.add_assoc, Nat.reduceAdd] at d1 d2 d3 d4
      have dl := hK.out.lt
      have n1 : (k : Int) < (n : Int) := by omega
      have n0 : (0 : Int) ≤ (k : Int) := by omega
      have HCN := cells_new (wr.alloc (.cells #[.bool b.there, .int .u64 (wdI b.bytes 0), .int .u64 (wdI b.bytes 1), .int .u64 (wdI b.bytes 2), .int .u64 (wdI b.bytes 3), .bool b.fin] 123)) #[.bool b.fin] 4
      rw [World.size_alloc] at HCN
      have HCN := Lib.hid HCN
      clear o0 oS o5 hb
      go_wp2_with (at_builtin; refine wpList_append_own _ rfl (.tmp 13) (.tmp 16) 31 rfl w2.heap.size 4 i0 (.bool false) 1 1 Tryz.underlying31 hi hz0 hz1 hz2 rfl (by decide) _ _ _ rfl ((hO.out.alloc _).alloc _) ⟨wr.heap.size + 1, 0, none⟩ 1 1 [.bool b.fin] rfl rfl HCN.out (by simp [Value.oneCell']) (by unfold maxLen; omega) (by omega) (by simp; omega) ?_; intro v5 w5 hown5 hgrow5 _)
      have hf5 := own_fin ((hO.out.alloc _).alloc _) (((Below.refl w2.heap.size wr).alloc hsz _).alloc (by simp; omega) _) hsz hgrow5
      have hO5 : Hid (w5.ownsRow w2.heap.size 4 1 v5 (k + 1) (cellsL mrkC ((B.take (k + 1)).map (·.fin)))) := Lib.hid (by
        rw [HT.out, cellsL_snoc]; exact hown5)
      have hK5 := Lib.hid (hK.out.below hf5 hbl)
      have hB5 := Lib.hid (hB.out.trans (hf5.mono hw2))
      have hs5 := Nat.le_trans hsz hf5.size
      clear hf5 hown5 hgrow5 hO hK hB d0 d1 d2 d3 d4 d5
      go_roundw
      case rel => exact ⟨k + 1, by go_num, by omega, hO5, hK5, hB5, hs5⟩
      case measure => simp [intOf]; omega
    · obtain rfl : k = n := by omega
      have hO2 := hO.out
      rw [List.take_of_length_le (by omega)] at hO2
      have hZ : Hid (∃ (Bo c : Nat) (cs : Array Value), u3 = .slice (some ⟨Bo, 0, none⟩) k c ∧ w.heap.size ≤ Bo ∧ Blk wr Bo 4 cs ∧ ∀ (j : Nat) (s : Bool), (B.map (·.fin))[j]? = some s → cs[j]? = some (.bool s)) := Lib.hid (by
        rcases hO2.2 with ⟨_, h0⟩ | ⟨gB, cap, cur, h1, h2, h3, h4, h5, h6, h7⟩
        · have := Hs1.out.1
          have := HN.out
          omega
        · refine ⟨gB, cap, cur, h1, by omega, h3, fun j s hj => ?_⟩
          have hjl : j < B.length := by
            have := (List.getElem?_eq_some_iff.1 hj).1
            simpa using this
          have h8 := cellsL_at (cs := mrkC) (k := 1) (fun _ => rfl) (B.map (·.fin)) j s hj 0 (by decide)
          rw [← h7, List.getElem?_take, if_pos (by omega), Array.getElem?_toList, Nat.mul_one, Nat.add_zero] at h8
          exact h8)
      have HF : Hid (EndsP g (B.map (·.fin)) ∧ B.map (·.fin) ≠ [] ∧ (B.map (·.fin)).length = k) := Lib.hid ⟨⟨B, HP.out, rfl⟩, fun h => by
        have h := congrArg List.length h
        rw [List.length_map, List.length_nil] at h
        have := Hs1.out.1
        have := HN.out
        omega, by rw [List.length_map]; exact hBn⟩
      obtain ⟨Bo, c, cs, rfl, hz1', hz2', hz3'⟩ := hZ.out
      have HE := Lib.hid (And.intro hz1' (And.intro hz2' hz3'))
      clear hO hO2 hK hz1' hz2' hz3' hZ
      go_wp2
      go_ret
      exact ⟨_, Bo, c, cs, HF.out.1, HF.out.2.1, by rw [HF.out.2.2]; rfl, HE.out.1, HE.out.2.1, HE.out.2.2, hB.out⟩
end Go.Proofs.YtodnlcbnbkkanaaGreatDoor
end
section
namespace Go.Proofs.YtodnlcbnbkkanaaGreatDoor
open Go Go.RowKit

def TellEnds (w : World) (g : GramM) (R : List Bool → Prop) (e : Ending) (w' : World) : Prop :=
  Below w.heap.size w w' ∧ ((checkB g = false ∧ e = .returned (.tuple #[.slice none 0 0, .int .i64 160])) ∨ (checkB g = true ∧ ∃ (F : List Bool) (B c : Nat) (cs : Array Value), R F ∧ F ≠ [] ∧ e = .returned (.tuple #[.slice (some ⟨B, 0, none⟩) F.length c, .int .i64 0]) ∧ w.heap.size ≤ B ∧ Blk w' B 4 cs ∧ (∀ (k : Nat) (s : Bool), F[k]? = some s → cs[k]? = some (.bool s))))

set_option maxRecDepth 100000 in
set_option maxHeartbeats 4000000 in
theorem answerE_any (g : GramM) (hf : FitG g) (K : Nat) (eg : ∀ args w, (callFunc K args).run Tryz.prog w = .ok (.enter K args) w) (R : List Bool → Prop) (w : World) (hg : GIn w g) (H : checkB g = true → ∀ W, GIn W g → Calls Tryz.prog K #[gramV g] W (BoolsPost W R)) :
    Calls Tryz.prog 45 #[gramV g, .func (.func K) #[] #[]] w (TellEnds w g R) := by
  have hB1 : Below w.heap.size w (w.alloc (.cells (gramC g) 27)) := (Below.refl _ _).alloc (Nat.le_refl _) _
  have HC := Lib.hid (check_any g _ (hg.below hB1) hf)
  have HB := Lib.hid hB1
  have HK := Lib.hid (Blk.new w 27 (gramC g))
  have HG := Lib.hid hg
  obtain ⟨b, hb⟩ : ∃ b, b = checkB g := ⟨_, rfl⟩
  have HBb := Lib.hid hb
  rw [← hb] at HC
  have HH := Lib.hid (fun h W hW => H (hb.symm.trans h) W hW)
  clear hf hg hB1 hb H
  unfold gramV gramC errI at *
  go_enter Tryz.func45, Tryz.ntmps45
  go_wp2_with fail
  refine HC.out.mono ?_
  rintro e w3 ⟨rfl, hB3⟩
  have HB3 := Lib.hid (HB.out.trans (hB3.mono HB.out.size))
  have HK3 := Lib.hid (HK.out.below hB3 HK.out.lt)
  clear hB3 HC
  cases b with
  | false =>
    rw [if_neg (by decide)]
    go_wp2
    go_ret2
    exact ⟨HB3.out, .inl ⟨HBb.out.symm, rfl⟩⟩
  | true =>
    rw [if_pos rfl]
    have HC2 := Lib.hid (HH.out rfl w3 (HG.out.below HB3.out))
    obtain ⟨c0, c1, c2, c3, c4⟩ := (show Blk w3 w.heap.size 27 (gramC g) from HK3.out).gram
    have l3 := HK3.out.lt
    clear HH
    go_wp2_with fail
    refine HC2.out.mono ?_
    rintro e w4 ⟨F, B, c, cs, hR, hne, rfl, hBl, hk, hat, hB4⟩
    have HR := Lib.hid (And.intro hR hne)
    have HBl : Hid (w.heap.size ≤ B) := Lib.hid (Nat.le_trans HB3.out.size hBl)
    have HKk := Lib.hid (And.intro hk hat)
    have HB4 := Lib.hid (HB3.out.trans (hB4.mono HB3.out.size))
    clear hR hne hBl hk hat hB4 HC2
    go_wp2
    go_ret2
    exact ⟨HB4.out, .inr ⟨HBb.out.symm, F, B, c, cs, HR.out.1, HR.out.2, rfl, HBl.out, HKk.out.1, HKk.out.2⟩⟩

set_option maxRecDepth 100000 in
set_option maxHeartbeats 1000000 in
theorem Ends_any (g : GramM) (hf : FitG g) (w : World) (hg : GIn w g) : Calls Tryz.prog 24 #[gramV g] w (TellEnds w g (EndsP g)) := by
  have hB1 : Below w.heap.size w (w.alloc (.cells (gramC g) 27)) := (Below.refl _ _).alloc (Nat.le_refl _) _
  have HC := Lib.hid (answerE_any g hf 55 (fun _ _ => by kernel_rfl) (EndsP g) _ (hg.below hB1) (fun h W hW => ends_any g (mayB_of h) (maySet_of h) hf.fit W hW))
  have HB := Lib.hid hB1
  clear hf hg hB1
  unfold gramV gramC at *
  go_enter Tryz.func24, Tryz.ntmps24
  go_wp2_with fail
  refine HC.out.mono ?_
  rintro e w3 ⟨hB3, ⟨hc, rfl⟩ | ⟨hc, F, B, c, cs, hR, hne, rfl, hBl, hk, hat⟩⟩
  · have HB3 := Lib.hid (HB.out.trans (hB3.mono HB.out.size))
    have Hc := Lib.hid hc
    clear hB3 hc HC
    go_wp2
    go_ret2
    exact ⟨HB3.out, .inl ⟨Hc.out, rfl⟩⟩
  · have HB3 := Lib.hid (HB.out.trans (hB3.mono HB.out.size))
    have Hc := Lib.hid hc
    have HR := Lib.hid (And.intro hR hne)
    have HBl : Hid (w.heap.size ≤ B) := Lib.hid (Nat.le_trans HB.out.size hBl)
    have HK := Lib.hid (And.intro hk hat)
    clear hB3 hc HC hR hne hBl hk hat
    go_wp2
    go_ret2
    exact ⟨HB3.out, .inr ⟨Hc.out, F, B, c, cs, HR.out.1, HR.out.2, rfl, HBl.out, HK.out.1, HK.out.2⟩⟩
end Go.Proofs.YtodnlcbnbkkanaaGreatDoor
end
section
namespace Go.Proofs.YtodnlcbnbkkanaaGreatDoor
open Go Go.RowKit Go.Vals

def prodOf : TreeM → Int
  | .node p _ _ _ _ => p
def ofTB (g : GramM) (r : TreeM → Bool) (s : SymM) : TreeM → Bool
  | .node p b ka kc kids => if s.kind = 0 then p == -1 && kids.length == 0 && s.set.getLsbD b.toNat else r (.node p b ka kc kids) && (match g.prods[p.toNat]? with | some x => x.left == s.sort | none => false)

set_option maxRecDepth 100000 in
set_option maxHeartbeats 2000000 in
theorem isTreeOf_any (g : GramM) (s : SymM) (k : TreeM) (r : TreeM → Bool) (d : Nat) (Bg : Nat) (w : World) (hbg : Blk w Bg 27 (gramC g)) (hg : GIn w g) (hfit : TFit (d + 1) k)
    (hcall : s.kind ≠ 0 → ∀ W, Below w.heap.size w W → Calls Tryz.prog 64 #[.pointer (some ⟨Bg, 0, none⟩), treeV k] W fun e w' => e = .returned (.bool (r k)) ∧ Below W.heap.size W w')
    (hr : r k = true → ∃ m : Nat, prodOf k = m ∧ m < g.prods.length) :
    Calls Tryz.prog 91 #[.pointer (some ⟨Bg, 0, none⟩), symV s, treeV k] w fun e w' => e = .returned (.bool (ofTB g r s k)) ∧ Below w.heap.size w w' := by
  obtain ⟨kp, kb, ka, kc, kids⟩ := k
  obtain ⟨hlen, ⟨n, rfl, hn⟩, _⟩ := hfit
  obtain ⟨sk, ss, so⟩ := s
  have e0 : ofTB g r ⟨sk, ss, so⟩ (.node kp (n : Int) ka kc kids) = if sk = 0 then kp == -1 && kids.length == 0 && ss.getLsbD n else r (.node kp (n : Int) ka kc kids) && (match g.prods[kp.toNat]? with | some x => x.left == so | none => false) := by
    unfold ofTB; simp only [Int.toNat_natCast]
  have HE := Lib.hid e0
  clear e0
  obtain ⟨W0, hW0⟩ : ∃ W0, W0 = (w.alloc (.cells (symC ⟨sk, ss, so⟩) 60)).alloc (.cells (treeC (.node kp (n : Int) ka kc kids)) 70) := ⟨_, rfl⟩
  have hB1 : Below w.heap.size w W0 := by rw [hW0]; exact ((Below.refl _ _).alloc (Nat.le_refl _) _).alloc (by simp) _
  have hb1 : Blk W0 w.heap.size 60 (symC ⟨sk, ss, so⟩) := by rw [hW0]; exact (Blk.new w 60 _).alloc _
  have hb2 : Blk W0 (w.heap.size + 1) 70 (treeC (.node kp (n : Int) ka kc kids)) := by
    have h := Blk.new (w.alloc (.cells (symC ⟨sk, ss, so⟩) 60)) 70 (treeC (.node kp (n : Int) ka kc kids))
    rw [World.size_alloc] at h
    rw [hW0]; exact h
  have HB := Lib.hid hB1
  have HHas := Lib.hid (fun W => has_any ss n hn W)
  by_cases hk : sk = 0
  · subst hk
    have HR3 : Hid (ofTB g r ⟨0, ss, so⟩ (.node kp (n : Int) ka kc kids) = (kp == -1 && kids.length == 0 && ss.getLsbD n)) := Lib.hid (by rw [HE.out, if_pos rfl])
    have HW := Lib.hid hW0
    clear HE hcall hr hbg hg hW0 hB1 hb1 hb2
    have HQ : Hid (ss.getLsbD n = ss.getLsbD n) := Lib.hid rfl
    generalize ofTB g r _ _ = q at *
    generalize ss.getLsbD n = h at *
    unfold vset at HHas
    unfold symV treeV symC treeC at *
    cases h1 : (kp == -1) with
    | false =>
      have HR4 : Hid (q = false) := Lib.hid (by rw [HR3.out, h1]; rfl)
      have h1' : ¬ kp = -1 := by simpa using h1
      clear HR3 HHas
      go_enter Tryz.func91, Tryz.ntmps91
      go_wp2
      go_ret
      exact ⟨by rw [HR4.out]; try rfl, by rw [← HW.out]; exact HB.out⟩
    | true =>
      obtain rfl := eq_of_beq h1
      cases h2 : (kids.length == 0) with
      | false =>
        have HR4 : Hid (q = false) := Lib.hid (by rw [HR3.out, h2]; rfl)
        have h2' : ¬ (kids.length : Int) = 0 := fun e => by
          have h3 : kids.length = 0 := by omega
          rw [h3] at h2
          cases h2
        have h4 : ((kids.length : Int) == 0) = false := by
          rw [beq_eq_false_iff_ne]
          exact h2'
        clear HR3 HHas
        go_enter Tryz.func91, Tryz.ntmps91
        go_wp2
        go_ret
        exact ⟨by rw [HR4.out]; try rfl, by rw [← HW.out]; exact HB.out⟩
      | true =>
        have HR4 : Hid (q = h) := Lib.hid (by rw [HR3.out, h2]; simp)
        have h2' : (kids.length : Int) = 0 := by
          have h3 := eq_of_beq h2
          omega
        clear HR3
        go_enter Tryz.func91, Tryz.ntmps91
        go_wp2_with (go_at_call 121; (with_reducible refine (HHas.out _).mono ?_); rintro e w3 ⟨rfl, hB3⟩)
        rw [← HW.out] at hB3
        go_ret
        exact ⟨by rw [HR4.out]; try rfl, HB.out.trans (hB3.mono HB.out.size)⟩
  · have HC := Lib.hid (hcall hk)
    have hkb : (sk == 0) = false := by simpa using hk
    have hN : ∀ W : World, Below W.heap.size W W := fun W => Below.refl _ W
    have lg := hbg.lt
    cases hrk : r (.node kp (n : Int) ka kc kids) with
    | false =>
      have HR3 : Hid (ofTB g r ⟨sk, ss, so⟩ (.node kp (n : Int) ka kc kids) = false) := Lib.hid (by rw [HE.out, if_neg hk, hrk]; rfl)
      rw [hrk] at HC
      have HK : Hid (∀ W, Below W0.heap.size W0 W → CellsAt W (w.heap.size + 1) 0 (treeC (.node kp (n : Int) ka kc kids)) ∧ True) := Lib.hid (fun W hW => ⟨fun j v hv => by
        have h := (hb2.below hW hb2.lt).cell j
        rw [Nat.zero_add, h, hv], trivial⟩)
      clear HE hcall hr hbg hg hB1 hb1 hb2 HHas hrk
      generalize ofTB g r _ _ = q at *
      unfold symV treeV at *
      unfold symC treeC at hW0 ⊢
      unfold treeC at HC
      go_enter Tryz.func91, Tryz.ntmps91
      go_wp2_with fail
      rw [← hW0]
      clear hW0
      refine wp_region_vals0 (N := fun W W' => Below W.heap.size W W') (S := fun W => Below W0.heap.size W0 W)
        [.pointer (some ⟨Bg, 0, none⟩), .agg #[.int .i64 kp, .int .u8 (n : Nat), .slice ka kids.length kc], .bool false, .bool false, undef, undef, undef, undef, undef, undef, undef, undef, undef, undef, undef, undef, .bool false, .bool false]
        #[.pointer (some ⟨Bg, 0, none⟩), .agg #[.int .i64 sk, .int .u64 (wdI ss 0), .int .u64 (wdI ss 1), .int .u64 (wdI ss 2), .int .u64 (wdI ss 3), .int .i64 so], .agg #[.int .i64 kp, .int .u8 (n : Nat), .slice ka kids.length kc], undef, .pointer (some ⟨w.heap.size, 0, none⟩), .pointer (some ⟨w.heap.size + 1, 0, none⟩), .bool false, .pointer (some ⟨w.heap.size, 0, none⟩), .int .i64 sk, .bool false, undef, undef, undef, undef, undef, undef, undef, undef, undef, undef, undef, undef, undef, undef, undef, undef, .pointer (some ⟨Bg, 0, none⟩), .agg #[.int .i64 kp, .int .u8 (n : Nat), .slice ka kids.length kc], .bool false, .bool false, undef, undef, undef, undef, undef, undef, undef, undef, undef, undef, undef, undef, .bool false]
        rfl (by kernel_rfl) (by kernel_rfl) (by kernel_rfl) hN (Below.refl _ W0).drew (fun W W' h hB => h.trans (hB.mono h.size)) ?_ ?_
      · refine Each.val 26 (.pointer (some ⟨Bg, 0, none⟩)) (by kernel_rfl) (by kernel_rfl) (by kernel_rfl) hN (fun _ _ _ => by kernel_rfl) ?_
        refine Each.val 27 (.agg #[.int .i64 kp, .int .u8 (n : Nat), .slice ka kids.length kc]) (by kernel_rfl) (by kernel_rfl) (by kernel_rfl) hN (fun W hS _ => ld70 rfl (by kernel_rfl) ((HK.out W hS).1)) ?_
        refine Each.call 28 (.bool false) 64 #[.pointer (some ⟨Bg, 0, none⟩), .agg #[.int .i64 kp, .int .u8 (n : Nat), .slice ka kids.length kc]] (by kernel_rfl) (by kernel_rfl) (by kernel_rfl) (fun _ _ => by kernel_rfl) (fun W hS => HC.out W (HB.out.trans (hS.mono HB.out.size))) ?_
        refine Each.val 29 (.bool false) (by kernel_rfl) (by kernel_rfl) (by kernel_rfl) hN (fun _ _ _ => by kernel_rfl) ?_
        refine Each.off 30 (by kernel_rfl) (by kernel_rfl) (by kernel_rfl) ?_
        refine Each.off 31 (by kernel_rfl) (by kernel_rfl) (by kernel_rfl) ?_
        refine Each.off 32 (by kernel_rfl) (by kernel_rfl) (by kernel_rfl) ?_
        refine Each.off 33 (by kernel_rfl) (by kernel_rfl) (by kernel_rfl) ?_
        refine Each.off 34 (by kernel_rfl) (by kernel_rfl) (by kernel_rfl) ?_
        refine Each.off 35 (by kernel_rfl) (by kernel_rfl) (by kernel_rfl) ?_
        refine Each.off 36 (by kernel_rfl) (by kernel_rfl) (by kernel_rfl) ?_
        refine Each.off 37 (by kernel_rfl) (by kernel_rfl) (by kernel_rfl) ?_
        refine Each.off 38 (by kernel_rfl) (by kernel_rfl) (by kernel_rfl) ?_
        refine Each.off 39 (by kernel_rfl) (by kernel_rfl) (by kernel_rfl) ?_
        refine Each.off 40 (by kernel_rfl) (by kernel_rfl) (by kernel_rfl) ?_
        refine Each.off 41 (by kernel_rfl) (by kernel_rfl) (by kernel_rfl) ?_
        refine Each.val 42 (.bool false) (by kernel_rfl) (by kernel_rfl) (by kernel_rfl) hN (fun _ _ _ => by kernel_rfl) ?_
        refine Each.val 6 (.bool false) (by kernel_rfl) (by kernel_rfl) (by kernel_rfl) hN (fun _ _ _ => by kernel_rfl) ?_
        exact trivial
      · intro w' hS
        have HB3 := Lib.hid (HB.out.trans (hS.mono HB.out.size))
        clear hS hN
        go_wp2
        go_ret
        exact ⟨by rw [HR3.out]; try rfl, HB3.out⟩
    | true =>
      obtain ⟨m, hm, hmn⟩ := hr hrk
      unfold prodOf at hm
      subst hm
      obtain ⟨x, hx⟩ : ∃ x, g.prods[m]? = some x := ⟨_, List.getElem?_eq_getElem hmn⟩
      have HR2 : Hid (ofTB g r ⟨sk, ss, so⟩ (.node (m : Int) (n : Int) ka kc kids) = (x.left == so)) := Lib.hid (by rw [HE.out, if_neg hk, hrk, Int.toNat_natCast, hx]; rfl)
      rw [hrk] at HC
      obtain ⟨b, off, hpa, hbw, hc, _⟩ := hg.prods m x hx
      have HK : Hid (∀ W, Below W0.heap.size W0 W → CellsAt W (w.heap.size + 1) 0 (treeC (.node (m : Int) (n : Int) ka kc kids)) ∧ W.cell? ⟨Bg, 1, none⟩ = some (.slice (some ⟨b, off, none⟩) g.prods.length g.pc) ∧ W.cell? ⟨w.heap.size + 1, 0, none⟩ = some (.int .i64 (m : Nat))
          ∧ W.cell? ⟨w.heap.size, 5, none⟩ = some (.int .i64 so) ∧ W.cell? ⟨b, off + m * 7, none⟩ = some (.int .i64 x.left)) := Lib.hid (fun W hW => by
        have hWw := hB1.trans (hW.mono hB1.size)
        refine ⟨fun j v hv => ?_, ?_, (hb2.below hW hb2.lt).cell 0, (hb1.below hW hb1.lt).cell 5, ?_⟩
        · have h := (hb2.below hW hb2.lt).cell j
          rw [Nat.zero_add, h, hv]
        · rw [← hpa]; exact (hbg.below hWw hbg.lt).gram.2.1
        · exact (Prod_at (hc.below hWw hbw)).1)
      clear HE hcall hr hbg hg hB1 hb1 hb2 HHas hrk hx hc
      generalize ofTB g r _ _ = q at *
      unfold symV treeV at *
      unfold symC treeC at hW0 ⊢
      unfold treeC at HC
      cases i1 : (x.left == so) with
      | false =>
        have HR3 : Hid (q = false) := Lib.hid (by rw [HR2.out, i1])
        clear HR2
        go_enter Tryz.func91, Tryz.ntmps91
        go_wp2_with fail
        rw [← hW0]
        clear hW0
        refine wp_region_vals0 (N := fun W W' => Below W.heap.size W W') (S := fun W => Below W0.heap.size W0 W)
          [.pointer (some ⟨Bg, 0, none⟩), .agg #[.int .i64 (m : Nat), .int .u8 (n : Nat), .slice ka kids.length kc], .bool true, .bool true, .pointer (some ⟨Bg, 0, none⟩), .pointer (some ⟨Bg, 0, none⟩), .pointer (some ⟨Bg, 1, none⟩), .slice (some ⟨b, off, none⟩) g.prods.length g.pc, .pointer (some ⟨w.heap.size + 1, 0, none⟩), .int .i64 (m : Nat), .pointer (some ⟨b, off + m * 7, none⟩), .pointer (some ⟨b, off + m * 7, none⟩), .int .i64 x.left, .pointer (some ⟨w.heap.size, 5, none⟩), .int .i64 so, .bool false, .bool false, .bool false]
          #[.pointer (some ⟨Bg, 0, none⟩), .agg #[.int .i64 sk, .int .u64 (wdI ss 0), .int .u64 (wdI ss 1), .int .u64 (wdI ss 2), .int .u64 (wdI ss 3), .int .i64 so], .agg #[.int .i64 (m : Nat), .int .u8 (n : Nat), .slice ka kids.length kc], undef, .pointer (some ⟨w.heap.size, 0, none⟩), .pointer (some ⟨w.heap.size + 1, 0, none⟩), .bool false, .pointer (some ⟨w.heap.size, 0, none⟩), .int .i64 sk, .bool false, undef, undef, undef, undef, undef, undef, undef, undef, undef, undef, undef, undef, undef, undef, undef, undef, .pointer (some ⟨Bg, 0, none⟩), .agg #[.int .i64 (m : Nat), .int .u8 (n : Nat), .slice ka kids.length kc], .bool true, .bool true, .pointer (some ⟨Bg, 0, none⟩), .pointer (some ⟨Bg, 0, none⟩), .pointer (some ⟨Bg, 1, none⟩), .slice (some ⟨b, off, none⟩) g.prods.length g.pc, .pointer (some ⟨w.heap.size + 1, 0, none⟩), .int .i64 (m : Nat), .pointer (some ⟨b, off + m * 7, none⟩), .pointer (some ⟨b, off + m * 7, none⟩), .int .i64 x.left, .pointer (some ⟨w.heap.size, 5, none⟩), .int .i64 so, .bool false, .bool false]
          rfl (by kernel_rfl) (by kernel_rfl) (by kernel_rfl) hN (Below.refl _ W0).drew (fun W W' h hB => h.trans (hB.mono h.size)) ?_ ?_
        · refine Each.val 26 (.pointer (some ⟨Bg, 0, none⟩)) (by kernel_rfl) (by kernel_rfl) (by kernel_rfl) hN (fun _ _ _ => by kernel_rfl) ?_
          refine Each.val 27 (.agg #[.int .i64 (m : Nat), .int .u8 (n : Nat), .slice ka kids.length kc]) (by kernel_rfl) (by kernel_rfl) (by kernel_rfl) hN (fun W hS _ => ld70 rfl (by kernel_rfl) ((HK.out W hS).1)) ?_
          refine Each.call 28 (.bool true) 64 #[.pointer (some ⟨Bg, 0, none⟩), .agg #[.int .i64 (m : Nat), .int .u8 (n : Nat), .slice ka kids.length kc]] (by kernel_rfl) (by kernel_rfl) (by kernel_rfl) (fun _ _ => by kernel_rfl) (fun W hS => HC.out W (HB.out.trans (hS.mono HB.out.size))) ?_
          refine Each.val 29 (.bool true) (by kernel_rfl) (by kernel_rfl) (by kernel_rfl) hN (fun _ _ _ => by kernel_rfl) ?_
          refine Each.val 30 (.pointer (some ⟨Bg, 0, none⟩)) (by kernel_rfl) (by kernel_rfl) (by kernel_rfl) hN (fun _ _ _ => by kernel_rfl) ?_
          refine Each.val 31 (.pointer (some ⟨Bg, 0, none⟩)) (by kernel_rfl) (by kernel_rfl) (by kernel_rfl) hN (fun _ _ _ => by kernel_rfl) ?_
          refine Each.val 32 (.pointer (some ⟨Bg, 1, none⟩)) (by kernel_rfl) (by kernel_rfl) (by kernel_rfl) hN (fun W hS _ => fa27_1 rfl (by kernel_rfl)) ?_
          refine Each.val 33 (.slice (some ⟨b, off, none⟩) g.prods.length g.pc) (by kernel_rfl) (by kernel_rfl) (by kernel_rfl) hN (fun W hS _ => ld23 rfl (by kernel_rfl) ((HK.out W hS).2.1)) ?_
          refine Each.val 34 (.pointer (some ⟨w.heap.size + 1, 0, none⟩)) (by kernel_rfl) (by kernel_rfl) (by kernel_rfl) hN (fun W hS _ => fa70_0 rfl (by kernel_rfl)) ?_
          refine Each.val 35 (.int .i64 (m : Nat)) (by kernel_rfl) (by kernel_rfl) (by kernel_rfl) hN (fun W hS _ => ld3 rfl (by kernel_rfl) ((HK.out W hS).2.2.1)) ?_
          refine Each.val 36 (.pointer (some ⟨b, off + m * 7, none⟩)) (by kernel_rfl) (by kernel_rfl) (by kernel_rfl) hN (fun W hS _ => ix23 (c := g.pc) rfl (by kernel_rfl) (by kernel_rfl) hmn rfl) ?_
          refine Each.val 37 (.pointer (some ⟨b, off + m * 7, none⟩)) (by kernel_rfl) (by kernel_rfl) (by kernel_rfl) hN (fun W hS _ => fa65_0 rfl (by kernel_rfl)) ?_
          refine Each.val 38 (.int .i64 x.left) (by kernel_rfl) (by kernel_rfl) (by kernel_rfl) hN (fun W hS _ => ld3 rfl (by kernel_rfl) ((HK.out W hS).2.2.2.2)) ?_
          refine Each.val 39 (.pointer (some ⟨w.heap.size, 5, none⟩)) (by kernel_rfl) (by kernel_rfl) (by kernel_rfl) hN (fun W hS _ => fa60_2 rfl (by kernel_rfl)) ?_
          refine Each.val 40 (.int .i64 so) (by kernel_rfl) (by kernel_rfl) (by kernel_rfl) hN (fun W hS _ => ld3 rfl (by kernel_rfl) ((HK.out W hS).2.2.2.1)) ?_
          refine Each.val 41 (.bool false) (by kernel_rfl) (by kernel_rfl) (by kernel_rfl) hN (fun W hS _ => ex_eql3 rfl (by kernel_rfl) (by kernel_rfl) (i1)) ?_
          refine Each.val 42 (.bool false) (by kernel_rfl) (by kernel_rfl) (by kernel_rfl) hN (fun _ _ _ => by kernel_rfl) ?_
          refine Each.val 6 (.bool false) (by kernel_rfl) (by kernel_rfl) (by kernel_rfl) hN (fun _ _ _ => by kernel_rfl) ?_
          exact trivial
        · intro w' hS
          have HB3 := Lib.hid (HB.out.trans (hS.mono HB.out.size))
          clear hS hN
          go_wp2
          go_ret
          exact ⟨by rw [HR3.out]; try rfl, HB3.out⟩
      | true =>
        have HR3 : Hid (q = true) := Lib.hid (by rw [HR2.out, i1])
        clear HR2
        go_enter Tryz.func91, Tryz.ntmps91
        go_wp2_with fail
        rw [← hW0]
        clear hW0
        refine wp_region_vals0 (N := fun W W' => Below W.heap.size W W') (S := fun W => Below W0.heap.size W0 W)
          [.pointer (some ⟨Bg, 0, none⟩), .agg #[.int .i64 (m : Nat), .int .u8 (n : Nat), .slice ka kids.length kc], .bool true, .bool true, .pointer (some ⟨Bg, 0, none⟩), .pointer (some ⟨Bg, 0, none⟩), .pointer (some ⟨Bg, 1, none⟩), .slice (some ⟨b, off, none⟩) g.prods.length g.pc, .pointer (some ⟨w.heap.size + 1, 0, none⟩), .int .i64 (m : Nat), .pointer (some ⟨b, off + m * 7, none⟩), .pointer (some ⟨b, off + m * 7, none⟩), .int .i64 x.left, .pointer (some ⟨w.heap.size, 5, none⟩), .int .i64 so, .bool true, .bool true, .bool true]
          #[.pointer (some ⟨Bg, 0, none⟩), .agg #[.int .i64 sk, .int .u64 (wdI ss 0), .int .u64 (wdI ss 1), .int .u64 (wdI ss 2), .int .u64 (wdI ss 3), .int .i64 so], .agg #[.int .i64 (m : Nat), .int .u8 (n : Nat), .slice ka kids.length kc], undef, .pointer (some ⟨w.heap.size, 0, none⟩), .pointer (some ⟨w.heap.size + 1, 0, none⟩), .bool true, .pointer (some ⟨w.heap.size, 0, none⟩), .int .i64 sk, .bool false, undef, undef, undef, undef, undef, undef, undef, undef, undef, undef, undef, undef, undef, undef, undef, undef, .pointer (some ⟨Bg, 0, none⟩), .agg #[.int .i64 (m : Nat), .int .u8 (n : Nat), .slice ka kids.length kc], .bool true, .bool true, .pointer (some ⟨Bg, 0, none⟩), .pointer (some ⟨Bg, 0, none⟩), .pointer (some ⟨Bg, 1, none⟩), .slice (some ⟨b, off, none⟩) g.prods.length g.pc, .pointer (some ⟨w.heap.size + 1, 0, none⟩), .int .i64 (m : Nat), .pointer (some ⟨b, off + m * 7, none⟩), .pointer (some ⟨b, off + m * 7, none⟩), .int .i64 x.left, .pointer (some ⟨w.heap.size, 5, none⟩), .int .i64 so, .bool true, .bool true]
          rfl (by kernel_rfl) (by kernel_rfl) (by kernel_rfl) hN (Below.refl _ W0).drew (fun W W' h hB => h.trans (hB.mono h.size)) ?_ ?_
        · refine Each.val 26 (.pointer (some ⟨Bg, 0, none⟩)) (by kernel_rfl) (by kernel_rfl) (by kernel_rfl) hN (fun _ _ _ => by kernel_rfl) ?_
          refine Each.val 27 (.agg #[.int .i64 (m : Nat), .int .u8 (n : Nat), .slice ka kids.length kc]) (by kernel_rfl) (by kernel_rfl) (by kernel_rfl) hN (fun W hS _ => ld70 rfl (by kernel_rfl) ((HK.out W hS).1)) ?_
          refine Each.call 28 (.bool true) 64 #[.pointer (some ⟨Bg, 0, none⟩), .agg #[.int .i64 (m : Nat), .int .u8 (n : Nat), .slice ka kids.length kc]] (by kernel_rfl) (by kernel_rfl) (by kernel_rfl) (fun _ _ => by kernel_rfl) (fun W hS => HC.out W (HB.out.trans (hS.mono HB.out.size))) ?_
          refine Each.val 29 (.bool true) (by kernel_rfl) (by kernel_rfl) (by kernel_rfl) hN (fun _ _ _ => by kernel_rfl) ?_
          refine Each.val 30 (.pointer (some ⟨Bg, 0, none⟩)) (by kernel_rfl) (by kernel_rfl) (by kernel_rfl) hN (fun _ _ _ => by kernel_rfl) ?_
          refine Each.val 31 (.pointer (some ⟨Bg, 0, none⟩)) (by kernel_rfl) (by kernel_rfl) (by kernel_rfl) hN (fun _ _ _ => by kernel_rfl) ?_
          refine Each.val 32 (.pointer (some ⟨Bg, 1, none⟩)) (by kernel_rfl) (by kernel_rfl) (by kernel_rfl) hN (fun W hS _ => fa27_1 rfl (by kernel_rfl)) ?_
          refine Each.val 33 (.slice (some ⟨b, off, none⟩) g.prods.length g.pc) (by kernel_rfl) (by kernel_rfl) (by kernel_rfl) hN (fun W hS _ => ld23 rfl (by kernel_rfl) ((HK.out W hS).2.1)) ?_
          refine Each.val 34 (.pointer (some ⟨w.heap.size + 1, 0, none⟩)) (by kernel_rfl) (by kernel_rfl) (by kernel_rfl) hN (fun W hS _ => fa70_0 rfl (by kernel_rfl)) ?_
          refine Each.val 35 (.int .i64 (m : Nat)) (by kernel_rfl) (by kernel_rfl) (by kernel_rfl) hN (fun W hS _ => ld3 rfl (by kernel_rfl) ((HK.out W hS).2.2.1)) ?_
          refine Each.val 36 (.pointer (some ⟨b, off + m * 7, none⟩)) (by kernel_rfl) (by kernel_rfl) (by kernel_rfl) hN (fun W hS _ => ix23 (c := g.pc) rfl (by kernel_rfl) (by kernel_rfl) hmn rfl) ?_
          refine Each.val 37 (.pointer (some ⟨b, off + m * 7, none⟩)) (by kernel_rfl) (by kernel_rfl) (by kernel_rfl) hN (fun W hS _ => fa65_0 rfl (by kernel_rfl)) ?_
          refine Each.val 38 (.int .i64 x.left) (by kernel_rfl) (by kernel_rfl) (by kernel_rfl) hN (fun W hS _ => ld3 rfl (by kernel_rfl) ((HK.out W hS).2.2.2.2)) ?_
          refine Each.val 39 (.pointer (some ⟨w.heap.size, 5, none⟩)) (by kernel_rfl) (by kernel_rfl) (by kernel_rfl) hN (fun W hS _ => fa60_2 rfl (by kernel_rfl)) ?_
          refine Each.val 40 (.int .i64 so) (by kernel_rfl) (by kernel_rfl) (by kernel_rfl) hN (fun W hS _ => ld3 rfl (by kernel_rfl) ((HK.out W hS).2.2.2.1)) ?_
          refine Each.val 41 (.bool true) (by kernel_rfl) (by kernel_rfl) (by kernel_rfl) hN (fun W hS _ => ex_eql3 rfl (by kernel_rfl) (by kernel_rfl) (i1)) ?_
          refine Each.val 42 (.bool true) (by kernel_rfl) (by kernel_rfl) (by kernel_rfl) hN (fun _ _ _ => by kernel_rfl) ?_
          refine Each.val 6 (.bool true) (by kernel_rfl) (by kernel_rfl) (by kernel_rfl) hN (fun _ _ _ => by kernel_rfl) ?_
          exact trivial
        · intro w' hS
          have HB3 := Lib.hid (HB.out.trans (hS.mono HB.out.size))
          clear hS hN
          go_wp2
          go_ret
          exact ⟨by rw [HR3.out]; try rfl, HB3.out⟩
end Go.Proofs.YtodnlcbnbkkanaaGreatDoor
end
section
namespace Go.Proofs.YtodnlcbnbkkanaaGreatDoor
open Go Go.RowKit Go.Vals

theorem ex_neq5 {w : World} {o : Oper} {ρ : Operand → Value} {x y : Operand} {a b : Int} {r : Bool} (ho : o.op = .binOp .neq 5 x y 5) (hx : ρ x = .int .u8 a) (hy : ρ y = .int .u8 b) (h : (a == b) = !r) : (execOp ρ o).run Tryz.prog w = .ok (.value (.bool r)) w := by
  unfold execOp; rw [ho]; simp only [hx, hy]
  have h2 : (a != b) = r := by simp [bne, h]
  go_simp
def treeB (g : GramM) : Nat → TreeM → Bool
  | 0, _ => false
  | d + 1, .node p b _ _ kids => numB p g.prods.length && b == 0 && (match g.prods[p.toNat]? with
    | none => false
    | some x => !(x.role == 11) && kids.length == x.right.length && (kids.zip x.right).all fun q => ofTB g (treeB g d) q.2 q.1)
theorem treeB_num {g : GramM} {d : Nat} {k : TreeM} (h : treeB g d k = true) : ∃ m : Nat, prodOf k = m ∧ m < g.prods.length := by
  cases d with
  | zero => unfold treeB at h; cases h
  | succ d =>
    obtain ⟨p, b, ka, kc, kids⟩ := k
    unfold treeB at h
    simp only [Bool.and_eq_true] at h
    obtain ⟨m, h1, h2⟩ := numB_nat h.1.1
    exact ⟨m, h1, h2⟩

set_option maxRecDepth 100000 in
set_option maxHeartbeats 4000000 in
theorem isTree_any (g : GramM) (hright : ∀ x, x ∈ g.prods → x.right.length ≤ 1048576) (hprods : g.prods.length ≤ 1048576) (d : Nat) : ∀ (t : TreeM) (Bg : Nat) (w : World), Blk w Bg 27 (gramC g) → GIn w g → TreeIn w t → TFit d t → nestB d t = true →
    Calls Tryz.prog 64 #[.pointer (some ⟨Bg, 0, none⟩), treeV t] w fun e w' => e = .returned (.bool (treeB g d t)) ∧ Below w.heap.size w w' := by
  induction d with
  | zero => intro t Bg w _ _ _ _ h; unfold nestB at h; cases h
  | succ d ih =>
  intro t Bg w hbg hg ht hfit hnest
  obtain ⟨p, b, ka, kc, kids⟩ := t
  rw [tree_in] at ht
  obtain ⟨hlen, ⟨n, rfl, hn⟩, hkf⟩ := hfit
  have HNe := Lib.hid (List.all_eq_true.1 (show kids.all (nestB d) = true from hnest))
  have HKf := Lib.hid hkf
  have HIh := Lib.hid ih
  have HT : Hid (treeB g (d + 1) (.node p (n : Int) ka kc kids) = (numB p g.prods.length && ((n : Int) == 0) && (match g.prods[p.toNat]? with
    | none => false
    | some x => !(x.role == 11) && kids.length == x.right.length && (kids.zip x.right).all fun q => ofTB g (treeB g d) q.2 q.1))) := Lib.hid (by rw [treeB])
  obtain ⟨W0, hW0⟩ : ∃ W0, W0 = w.alloc (.cells #[.int .i64 p, .int .u8 (n : Nat), .slice ka kids.length kc] 70) := ⟨_, rfl⟩
  have hB1 : Below w.heap.size w W0 := by rw [hW0]; exact (Below.refl _ _).alloc (Nat.le_refl _) _
  have hb1 : Blk W0 w.heap.size 70 #[.int .i64 p, .int .u8 (n : Nat), .slice ka kids.length kc] := by rw [hW0]; exact Blk.new w 70 _
  have HB := Lib.hid hB1
  have Hb1 := Lib.hid hb1
  have lg := hbg.lt
  have HK : Hid (∀ W, Below W0.heap.size W0 W → W.cell? ⟨w.heap.size, 0, none⟩ = some (.int .i64 p) ∧ W.cell? ⟨w.heap.size, 1, none⟩ = some (.int .u8 (n : Nat)) ∧ W.cell? ⟨Bg, 1, none⟩ = some (.slice g.pa g.prods.length g.pc)) := Lib.hid (fun W hW =>
    ⟨(hb1.below hW hb1.lt).cell 0, (hb1.below hW hb1.lt).cell 1, (hbg.below (hB1.trans (hW.mono hB1.size)) hbg.lt).gram.2.1⟩)
  have HBg := Lib.hid hbg
  have HG := Lib.hid hg
  have HTr := Lib.hid ht
  have HRi := Lib.hid hright
  have HN := Lib.hid (fun W => (num_any p (g.prods.length : Nat) W).mono (R' := fun e w' => e = .returned (.bool (numB p (g.prods.length : Nat))) ∧ Below W.heap.size W w') (by rintro e w' ⟨h1, rfl⟩; exact ⟨h1, Below.refl _ _⟩))
  have hN : ∀ W : World, Below W.heap.size W W := fun W => Below.refl _ W
  clear hbg hg ht hkf hnest ih hB1 hb1 hright
  generalize treeB g (d + 1) _ = q at *
  unfold treeV treeC
  cases i1 : numB p (g.prods.length : Nat) with
  | false =>
    have HR3 : Hid (q = false) := Lib.hid (by rw [HT.out, i1]; rfl)
    rw [i1] at HN
    clear HT i1 HNe HKf HIh HBg HG HTr HRi Hb1
    go_enter Tryz.func64, Tryz.ntmps64
    go_wp2_with fail
    rw [← hW0]
    clear hW0
    refine wp_region_vals0 (N := fun W W' => Below W.heap.size W W') (S := fun W => Below W0.heap.size W0 W)
      [.pointer (some ⟨w.heap.size, 0, none⟩), .int .i64 p, .pointer (some ⟨Bg, 0, none⟩), .pointer (some ⟨Bg, 0, none⟩), .pointer (some ⟨Bg, 1, none⟩), .slice g.pa g.prods.length g.pc, .int .i64 (g.prods.length : Nat), .bool false, .bool true, .bool true, undef, undef, undef, .bool true]
      #[.pointer (some ⟨Bg, 0, none⟩), .agg #[.int .i64 p, .int .u8 (n : Nat), .slice ka kids.length kc], undef, .pointer (some ⟨w.heap.size, 0, none⟩), .bool false, undef, undef, undef, .pointer (some ⟨w.heap.size, 0, none⟩), .int .i64 p, .pointer (some ⟨Bg, 0, none⟩), .pointer (some ⟨Bg, 0, none⟩), .pointer (some ⟨Bg, 1, none⟩), .slice g.pa g.prods.length g.pc, .int .i64 (g.prods.length : Nat), .bool false, .bool true, .bool true, undef, undef, undef, .bool true, undef, undef, undef, undef, undef, undef, undef, undef, undef, undef, undef, undef, undef, undef, undef, undef, undef, undef, undef, undef, undef, undef, undef, undef, undef, undef, undef, undef, undef, undef, undef, undef, undef, undef, undef, undef, undef, undef]
      rfl (by kernel_rfl) (by kernel_rfl) (by kernel_rfl) hN (Below.refl _ W0).drew (fun W W' h hB => h.trans (hB.mono h.size)) ?_ ?_
    · refine Each.val 8 (.pointer (some ⟨w.heap.size, 0, none⟩)) (by kernel_rfl) (by kernel_rfl) (by kernel_rfl) hN (fun W hS _ => fa70_0 rfl (by kernel_rfl)) ?_
      refine Each.val 9 (.int .i64 p) (by kernel_rfl) (by kernel_rfl) (by kernel_rfl) hN (fun W hS _ => ld3 rfl (by kernel_rfl) ((HK.out W hS).1)) ?_
      refine Each.val 10 (.pointer (some ⟨Bg, 0, none⟩)) (by kernel_rfl) (by kernel_rfl) (by kernel_rfl) hN (fun _ _ _ => by kernel_rfl) ?_
      refine Each.val 11 (.pointer (some ⟨Bg, 0, none⟩)) (by kernel_rfl) (by kernel_rfl) (by kernel_rfl) hN (fun _ _ _ => by kernel_rfl) ?_
      refine Each.val 12 (.pointer (some ⟨Bg, 1, none⟩)) (by kernel_rfl) (by kernel_rfl) (by kernel_rfl) hN (fun W hS _ => fa27_1 rfl (by kernel_rfl)) ?_
      refine Each.val 13 (.slice g.pa g.prods.length g.pc) (by kernel_rfl) (by kernel_rfl) (by kernel_rfl) hN (fun W hS _ => ld23 rfl (by kernel_rfl) ((HK.out W hS).2.2)) ?_
      refine Each.val 14 (.int .i64 (g.prods.length : Nat)) (by kernel_rfl) (by kernel_rfl) (by kernel_rfl) hN (fun W hS _ => len23 (a := g.pa) (c := g.pc) rfl (by kernel_rfl)) ?_
      refine Each.call 15 (.bool false) 90 #[.int .i64 p, .int .i64 (g.prods.length : Nat)] (by kernel_rfl) (by kernel_rfl) (by kernel_rfl) (fun _ _ => by kernel_rfl) (fun W hS => HN.out W) ?_
      refine Each.val 16 (.bool true) (by kernel_rfl) (by kernel_rfl) (by kernel_rfl) hN (fun _ _ _ => by kernel_rfl) ?_
      refine Each.val 17 (.bool true) (by kernel_rfl) (by kernel_rfl) (by kernel_rfl) hN (fun _ _ _ => by kernel_rfl) ?_
      refine Each.off 18 (by kernel_rfl) (by kernel_rfl) (by kernel_rfl) ?_
      refine Each.off 19 (by kernel_rfl) (by kernel_rfl) (by kernel_rfl) ?_
      refine Each.off 20 (by kernel_rfl) (by kernel_rfl) (by kernel_rfl) ?_
      refine Each.val 21 (.bool true) (by kernel_rfl) (by kernel_rfl) (by kernel_rfl) hN (fun _ _ _ => by kernel_rfl) ?_
      exact trivial
    · intro w1 hS
      have HB3 := Lib.hid (HB.out.trans (hS.mono HB.out.size))
      clear hS hN
      go_wp2
      go_ret
      exact ⟨by rw [HR3.out]; try rfl, HB3.out⟩
  | true =>
    obtain ⟨m, rfl, hm⟩ := numB_nat i1
    rw [i1] at HN HT
    cases i2 : ((n : Int) == 0) with
    | false =>
      have HR3 : Hid (q = false) := Lib.hid (by rw [HT.out, i2]; rfl)
      clear HT i1 HNe HKf HIh HBg HG HTr HRi Hb1
      go_enter Tryz.func64, Tryz.ntmps64
      go_wp2_with fail
      rw [← hW0]
      clear hW0
      refine wp_region_vals0 (N := fun W W' => Below W.heap.size W W') (S := fun W => Below W0.heap.size W0 W)
        [.pointer (some ⟨w.heap.size, 0, none⟩), .int .i64 (m : Nat), .pointer (some ⟨Bg, 0, none⟩), .pointer (some ⟨Bg, 0, none⟩), .pointer (some ⟨Bg, 1, none⟩), .slice g.pa g.prods.length g.pc, .int .i64 (g.prods.length : Nat), .bool true, .bool false, .bool false, .pointer (some ⟨w.heap.size, 1, none⟩), .int .u8 (n : Nat), .bool true, .bool true]
        #[.pointer (some ⟨Bg, 0, none⟩), .agg #[.int .i64 (m : Nat), .int .u8 (n : Nat), .slice ka kids.length kc], undef, .pointer (some ⟨w.heap.size, 0, none⟩), .bool false, undef, undef, undef, .pointer (some ⟨w.heap.size, 0, none⟩), .int .i64 (m : Nat), .pointer (some ⟨Bg, 0, none⟩), .pointer (some ⟨Bg, 0, none⟩), .pointer (some ⟨Bg, 1, none⟩), .slice g.pa g.prods.length g.pc, .int .i64 (g.prods.length : Nat), .bool true, .bool false, .bool false, .pointer (some ⟨w.heap.size, 1, none⟩), .int .u8 (n : Nat), .bool true, .bool true, undef, undef, undef, undef, undef, undef, undef, undef, undef, undef, undef, undef, undef, undef, undef, undef, undef, undef, undef, undef, undef, undef, undef, undef, undef, undef, undef, undef, undef, undef, undef, undef, undef, undef, undef, undef, undef, undef]
        rfl (by kernel_rfl) (by kernel_rfl) (by kernel_rfl) hN (Below.refl _ W0).drew (fun W W' h hB => h.trans (hB.mono h.size)) ?_ ?_
      · refine Each.val 8 (.pointer (some ⟨w.heap.size, 0, none⟩)) (by kernel_rfl) (by kernel_rfl) (by kernel_rfl) hN (fun W hS _ => fa70_0 rfl (by kernel_rfl)) ?_
        refine Each.val 9 (.int .i64 (m : Nat)) (by kernel_rfl) (by kernel_rfl) (by kernel_rfl) hN (fun W hS _ => ld3 rfl (by kernel_rfl) ((HK.out W hS).1)) ?_
        refine Each.val 10 (.pointer (some ⟨Bg, 0, none⟩)) (by kernel_rfl) (by kernel_rfl) (by kernel_rfl) hN (fun _ _ _ => by kernel_rfl) ?_
        refine Each.val 11 (.pointer (some ⟨Bg, 0, none⟩)) (by kernel_rfl) (by kernel_rfl) (by kernel_rfl) hN (fun _ _ _ => by kernel_rfl) ?_
        refine Each.val 12 (.pointer (some ⟨Bg, 1, none⟩)) (by kernel_rfl) (by kernel_rfl) (by kernel_rfl) hN (fun W hS _ => fa27_1 rfl (by kernel_rfl)) ?_
        refine Each.val 13 (.slice g.pa g.prods.length g.pc) (by kernel_rfl) (by kernel_rfl) (by kernel_rfl) hN (fun W hS _ => ld23 rfl (by kernel_rfl) ((HK.out W hS).2.2)) ?_
        refine Each.val 14 (.int .i64 (g.prods.length : Nat)) (by kernel_rfl) (by kernel_rfl) (by kernel_rfl) hN (fun W hS _ => len23 (a := g.pa) (c := g.pc) rfl (by kernel_rfl)) ?_
        refine Each.call 15 (.bool true) 90 #[.int .i64 (m : Nat), .int .i64 (g.prods.length : Nat)] (by kernel_rfl) (by kernel_rfl) (by kernel_rfl) (fun _ _ => by kernel_rfl) (fun W hS => HN.out W) ?_
        refine Each.val 16 (.bool false) (by kernel_rfl) (by kernel_rfl) (by kernel_rfl) hN (fun _ _ _ => by kernel_rfl) ?_
        refine Each.val 17 (.bool false) (by kernel_rfl) (by kernel_rfl) (by kernel_rfl) hN (fun _ _ _ => by kernel_rfl) ?_
        refine Each.val 18 (.pointer (some ⟨w.heap.size, 1, none⟩)) (by kernel_rfl) (by kernel_rfl) (by kernel_rfl) hN (fun W hS _ => fa70_1 rfl (by kernel_rfl)) ?_
        refine Each.val 19 (.int .u8 (n : Nat)) (by kernel_rfl) (by kernel_rfl) (by kernel_rfl) hN (fun W hS _ => ld5 rfl (by kernel_rfl) ((HK.out W hS).2.1)) ?_
        refine Each.val 20 (.bool true) (by kernel_rfl) (by kernel_rfl) (by kernel_rfl) hN (fun W hS _ => ex_neq5 rfl (by kernel_rfl) (by kernel_rfl) (i2)) ?_
        refine Each.val 21 (.bool true) (by kernel_rfl) (by kernel_rfl) (by kernel_rfl) hN (fun _ _ _ => by kernel_rfl) ?_
        exact trivial
      · intro w1 hS
        have HB3 := Lib.hid (HB.out.trans (hS.mono HB.out.size))
        clear hS hN
        go_wp2
        go_ret
        exact ⟨by rw [HR3.out]; try rfl, HB3.out⟩
    | true =>
      obtain ⟨x, hx⟩ : ∃ x, g.prods[m]? = some x := ⟨_, List.getElem?_eq_getElem hm⟩
      have HX : Hid (q = (!(x.role == 11) && kids.length == x.right.length && (kids.zip x.right).all fun q => ofTB g (treeB g d) q.2 q.1)) := Lib.hid (by rw [HT.out, i2, Int.toNat_natCast, hx]; rfl)
      have HMem := Lib.hid (List.mem_of_getElem? hx)
      have hxr := HRi.out x HMem.out
      obtain ⟨pb, po, hpa, hbw, hc, hpi⟩ := HG.out.prods m x hx
      have HPa := Lib.hid hpa
      have HC := Lib.hid hc
      have HPi := Lib.hid hpi
      clear HT i1 hx hc hpi hpa
      go_enter Tryz.func64, Tryz.ntmps64
      go_wp2_with fail
      rw [← hW0]
      clear hW0
      refine wp_region_vals0 (N := fun W W' => Below W.heap.size W W') (S := fun W => Below W0.heap.size W0 W)
        [.pointer (some ⟨w.heap.size, 0, none⟩), .int .i64 (m : Nat), .pointer (some ⟨Bg, 0, none⟩), .pointer (some ⟨Bg, 0, none⟩), .pointer (some ⟨Bg, 1, none⟩), .slice g.pa g.prods.length g.pc, .int .i64 (g.prods.length : Nat), .bool true, .bool false, .bool false, .pointer (some ⟨w.heap.size, 1, none⟩), .int .u8 (n : Nat), .bool false, .bool false]
        #[.pointer (some ⟨Bg, 0, none⟩), .agg #[.int .i64 (m : Nat), .int .u8 (n : Nat), .slice ka kids.length kc], undef, .pointer (some ⟨w.heap.size, 0, none⟩), .bool false, undef, undef, undef, .pointer (some ⟨w.heap.size, 0, none⟩), .int .i64 (m : Nat), .pointer (some ⟨Bg, 0, none⟩), .pointer (some ⟨Bg, 0, none⟩), .pointer (some ⟨Bg, 1, none⟩), .slice g.pa g.prods.length g.pc, .int .i64 (g.prods.length : Nat), .bool true, .bool false, .bool false, .pointer (some ⟨w.heap.size, 1, none⟩), .int .u8 (n : Nat), .bool false, .bool false, undef, undef, undef, undef, undef, undef, undef, undef, undef, undef, undef, undef, undef, undef, undef, undef, undef, undef, undef, undef, undef, undef, undef, undef, undef, undef, undef, undef, undef, undef, undef, undef, undef, undef, undef, undef, undef, undef]
        rfl (by kernel_rfl) (by kernel_rfl) (by kernel_rfl) hN (Below.refl _ W0).drew (fun W W' h hB => h.trans (hB.mono h.size)) ?_ ?_
      · refine Each.val 8 (.pointer (some ⟨w.heap.size, 0, none⟩)) (by kernel_rfl) (by kernel_rfl) (by kernel_rfl) hN (fun W hS _ => fa70_0 rfl (by kernel_rfl)) ?_
        refine Each.val 9 (.int .i64 (m : Nat)) (by kernel_rfl) (by kernel_rfl) (by kernel_rfl) hN (fun W hS _ => ld3 rfl (by kernel_rfl) ((HK.out W hS).1)) ?_
        refine Each.val 10 (.pointer (some ⟨Bg, 0, none⟩)) (by kernel_rfl) (by kernel_rfl) (by kernel_rfl) hN (fun _ _ _ => by kernel_rfl) ?_
        refine Each.val 11 (.pointer (some ⟨Bg, 0, none⟩)) (by kernel_rfl) (by kernel_rfl) (by kernel_rfl) hN (fun _ _ _ => by kernel_rfl) ?_
        refine Each.val 12 (.pointer (some ⟨Bg, 1, none⟩)) (by kernel_rfl) (by kernel_rfl) (by kernel_rfl) hN (fun W hS _ => fa27_1 rfl (by kernel_rfl)) ?_
        refine Each.val 13 (.slice g.pa g.prods.length g.pc) (by kernel_rfl) (by kernel_rfl) (by kernel_rfl) hN (fun W hS _ => ld23 rfl (by kernel_rfl) ((HK.out W hS).2.2)) ?_
        refine Each.val 14 (.int .i64 (g.prods.length : Nat)) (by kernel_rfl) (by kernel_rfl) (by kernel_rfl) hN (fun W hS _ => len23 (a := g.pa) (c := g.pc) rfl (by kernel_rfl)) ?_
        refine Each.call 15 (.bool true) 90 #[.int .i64 (m : Nat), .int .i64 (g.prods.length : Nat)] (by kernel_rfl) (by kernel_rfl) (by kernel_rfl) (fun _ _ => by kernel_rfl) (fun W hS => HN.out W) ?_
        refine Each.val 16 (.bool false) (by kernel_rfl) (by kernel_rfl) (by kernel_rfl) hN (fun _ _ _ => by kernel_rfl) ?_
        refine Each.val 17 (.bool false) (by kernel_rfl) (by kernel_rfl) (by kernel_rfl) hN (fun _ _ _ => by kernel_rfl) ?_
        refine Each.val 18 (.pointer (some ⟨w.heap.size, 1, none⟩)) (by kernel_rfl) (by kernel_rfl) (by kernel_rfl) hN (fun W hS _ => fa70_1 rfl (by kernel_rfl)) ?_
        refine Each.val 19 (.int .u8 (n : Nat)) (by kernel_rfl) (by kernel_rfl) (by kernel_rfl) hN (fun W hS _ => ld5 rfl (by kernel_rfl) ((HK.out W hS).2.1)) ?_
        refine Each.val 20 (.bool false) (by kernel_rfl) (by kernel_rfl) (by kernel_rfl) hN (fun W hS _ => ex_neq5 rfl (by kernel_rfl) (by kernel_rfl) (i2)) ?_
        refine Each.val 21 (.bool false) (by kernel_rfl) (by kernel_rfl) (by kernel_rfl) hN (fun _ _ _ => by kernel_rfl) ?_
        exact trivial
      · intro w1 hS
        have HB3 := Lib.hid (HB.out.trans (hS.mono HB.out.size))
        have Hb3 := Lib.hid (Hb1.out.below hS Hb1.out.lt)
        have HBg3 := Lib.hid (HBg.out.below HB3.out HBg.out.lt)
        have g1 := HBg3.out.gram.2.1
        rw [HPa.out] at g1
        have lg3 := HBg3.out.lt
        have lb3 := Hb3.out.lt
        have a0 := Hb3.out.cell 0
        have a2 := Hb3.out.cell 2
        simp only [List.getElem?_toArray, List.getElem?_cons_zero, List.getElem?_cons_succ] at a0 a2
        have lpb : pb < w1.heap.size := Nat.lt_of_lt_of_le hbw HB3.out.size
        obtain ⟨c0, c1, c2, c3, c4, c5, c6⟩ := Prod_at (HC.out.below HB3.out hbw)
        have m1 : (m : Int) < (g.prods.length : Int) := by omega
        clear hS hN HK HN
        go_wp2
        go_region
        obtain ⟨W2, hW2⟩ : ∃ W, W = (w1.alloc (.cells #[.int .i64 x.left, .slice x.ra x.right.length x.rc, .string x.cons, .int .i64 x.role, .bool x.prefer, .bool x.avoid, .int .i64 x.frm] 65)).drew := ⟨_, rfl⟩
        have hb2 : Blk W2 w1.heap.size 65 (prodC x) := by rw [hW2]; exact Blk.new w1 65 _
        have hBw2 : Below w1.heap.size w1 W2 := by rw [hW2]; exact ((Below.refl _ _).alloc (Nat.le_refl _) _).drew
        rw [← hW2]
        have Hb2 := Lib.hid hb2
        have HB4 := Lib.hid (HB3.out.trans (hBw2.mono HB3.out.size))
        have Hb4 := Lib.hid (Hb3.out.below hBw2 Hb3.out.lt)
        have HBg4 := Lib.hid (HBg3.out.below hBw2 HBg3.out.lt)
        obtain ⟨_, d1, _, d3, _, _, _⟩ := hb2.prod
        have l2 := hb2.lt
        have b2 := Hb4.out.cell 2
        simp only [List.getElem?_toArray, List.getElem?_cons_zero, List.getElem?_cons_succ] at b2
        have lb4 := Hb4.out.lt
        obtain ⟨xra, hxra⟩ : ∃ a, a = x.ra := ⟨_, rfl⟩
        have HXra := Lib.hid hxra
        rw [← hxra] at d1 ⊢
        clear hW2 hb2 hBw2 hxra c0 c1 c2 c3 c4 c5 c6 a0 a2 g1
        cases h1 : (x.role == 11) with
        | true =>
          have HR3 : Hid (q = false) := Lib.hid (by rw [HX.out, h1]; rfl)
          go_wp2
          go_ret
          exact ⟨by rw [HR3.out]; try rfl, HB4.out⟩
        | false =>
          cases h2 : (kids.length == x.right.length) with
          | false =>
            have HR3 : Hid (q = false) := Lib.hid (by rw [HX.out, h2]; simp)
            have h3 : ((kids.length : Int) == (x.right.length : Int)) = false := by
              rw [beq_eq_false_iff_ne] at h2 ⊢
              omega
            have h4 : ((kids.length : Int) != (x.right.length : Int)) = true := by rw [bne, h3]; rfl
            go_wp2
            go_ret
            exact ⟨by rw [HR3.out]; try rfl, HB4.out⟩
          | true =>
            have HL2 := Lib.hid (eq_of_beq h2)
            have HX2 : Hid (q = (kids.zip x.right).all fun q => ofTB g (treeB g d) q.2 q.1) := Lib.hid (by rw [HX.out, h1, h2]; simp)
            have h3 : ((kids.length : Int) == (x.right.length : Int)) = true := by
              rw [beq_iff_eq, HL2.out]
            have h4 : ((kids.length : Int) != (x.right.length : Int)) = false := by rw [bne, h3]; rfl
            have HLn := Lib.hid hlen
            have hrl : kids.length ≤ 1048576 := hlen
            clear HX h2
            go_wp2
            have HB5 := Lib.hid (Below.refl W2.heap.size W2)
            go_loopw [45] (fun i wr => ∃ k : Nat, i = .int .i64 k ∧ k ≤ kids.length ∧ Hid (((kids.zip x.right).take k).all (fun q => ofTB g (treeB g d) q.2 q.1) = true) ∧ Hid (Below W2.heap.size W2 wr))
              (fun i _ => kids.length - (intOf i).toNat)
            case atStart => exact ⟨0, rfl, Nat.zero_le _, Lib.hid rfl, HB5⟩
            case round =>
              clear HB5 b2 d1 d3
              obtain ⟨k, rfl, hk, hA, hB⟩ := hrel
              by_cases hlt : k < kids.length
              · obtain ⟨kd, hkd⟩ : ∃ y, kids[k]? = some y := ⟨_, List.getElem?_eq_getElem hlt⟩
                obtain ⟨s, hs⟩ : ∃ y, x.right[k]? = some y := ⟨_, List.getElem?_eq_getElem (by rw [← HL2.out]; exact hlt)⟩
                have hkm := List.mem_of_getElem? hkd
                have hz : (kids.zip x.right)[k]? = some (kd, s) := by rw [List.getElem?_zip_eq_some]; exact ⟨hkd, hs⟩
                have HZ := Lib.hid (take_snoc _ k _ hz)
                obtain ⟨kb, ko, rfl, hkb, hkc, hki⟩ := HTr.out k kd hkd
                obtain ⟨rb, ro, hra, hrb, hrc, _⟩ := HPi.out k s hs
                rw [← HXra.out] at hra
                subst hra
                have hBr := HB4.out.trans (hB.out.mono HB4.out.size)
                have HBr := Lib.hid hBr
                have hfd : ∃ d', TFit (d' + 1) kd := by
                  have h1 := HKf.out kd hkm
                  have h2 := HNe.out kd hkm
                  cases d with
                  | zero => unfold nestB at h2; cases h2
                  | succ d' => exact ⟨d', h1⟩
                obtain ⟨d', hfd⟩ := hfd
                have HCk := Lib.hid (fun W (hW : Below wr.heap.size wr W) => isTreeOf_any g s kd (treeB g d) d' Bg W (HBg.out.below (hBr.trans (hW.mono hBr.size)) HBg.out.lt) (HG.out.below (hBr.trans (hW.mono hBr.size))) hfd
                  (fun _ V hV => HIh.out kd Bg V (HBg.out.below (hBr.trans ((hW.trans (hV.mono hW.size)).mono hBr.size)) HBg.out.lt) (HG.out.below (hBr.trans ((hW.trans (hV.mono hW.size)).mono hBr.size))) (TreeIn.below (hBr.trans ((hW.trans (hV.mono hW.size)).mono hBr.size)) kd hki) (HKf.out kd hkm) (HNe.out kd hkm))
                  treeB_num)
                have HV : Hid (((kids.zip x.right).take (k + 1)).all (fun q => ofTB g (treeB g d) q.2 q.1) = ofTB g (treeB g d) s kd) := Lib.hid (by rw [HZ.out, List.all_append, hA.out]; simp)
                have HVf : Hid (ofTB g (treeB g d) s kd = false → ((kids.zip x.right).all fun q => ofTB g (treeB g d) q.2 q.1) = false) := Lib.hid (fun h => by
                  rw [Bool.eq_false_iff]
                  intro h2
                  have := List.all_eq_true.1 h2 (kd, s) (List.mem_of_getElem? hz)
                  rw [h] at this
                  cases this)
                generalize ofTB g (treeB g d) s kd = r at *
                obtain ⟨tp, tb, ta, tc, tk⟩ := kd
                obtain ⟨t0, t1, t2⟩ := Tree_at (hkc.below hBr hkb)
                obtain ⟨s0, s1, s2, s3, s4, s5⟩ := Sym_at (hrc.below hBr hrb)
                obtain ⟨sk, ss, so⟩ := s
                have lrb : rb < wr.heap.size := Nat.lt_of_lt_of_le hrb hBr.size
                have lw2 : w1.heap.size < wr.heap.size := Nat.lt_of_lt_of_le l2 hB.out.size
                have hb2r := (Hb2.out.below hB.out l2).prod.2.1
                rw [← HXra.out] at hb2r
                have k1 : (k : Int) < (kids.length : Int) := by omega
                have k2 : (k : Int) < (x.right.length : Int) := by have := HL2.out; omega
                have hb3 := Blk.new wr 70 #[.int .i64 tp, .int .u8 tb, .slice ta tk.length tc]
                obtain ⟨W3, hW3⟩ : ∃ W, W = wr.alloc (.cells #[.int .i64 tp, .int .u8 tb, .slice ta tk.length tc] 70) := ⟨_, rfl⟩
                have hB3w : Below wr.heap.size wr W3 := by rw [hW3]; exact (Below.refl _ _).alloc (Nat.le_refl _) _
                rw [← hW3] at hb3
                have v0 := hb3.cell 0
                have v1 := hb3.cell 1
                have v2 := hb3.cell 2
                simp only [List.getElem?_toArray, List.getElem?_cons_zero, List.getElem?_cons_succ] at v0 v1 v2
                have HC3 := Lib.hid (HCk.out W3.drew hB3w.drew)
                have HBr3 := Lib.hid (hB.out.drew.trans ((Below.refl _ _).mono (Nat.le_refl _)))
                have HB3w := Lib.hid hB3w
                unfold symV treeV symC treeC at HC3
                dsimp only at s0 s1 s2 s3 s4 s5
                have z0 := (World.cell?_of_block (hB3w.block rb lrb)).trans s0
                have z1 := (World.cell?_of_block (hB3w.block rb lrb)).trans s1
                have z2 := (World.cell?_of_block (hB3w.block rb lrb)).trans s2
                have z3 := (World.cell?_of_block (hB3w.block rb lrb)).trans s3
                have z4 := (World.cell?_of_block (hB3w.block rb lrb)).trans s4
                have z5 := (World.cell?_of_block (hB3w.block rb lrb)).trans s5
                have z6 := (World.cell?_of_block (hB3w.block w1.heap.size lw2)).trans hb2r
                have l3 : wr.heap.size < W3.heap.size := hb3.lt
                clear hkd hs hz hki hkc hrc hfd HZ HCk hb3 hB3w hBr s0 s1 s2 s3 s4 s5 hb2r
                go_wp2_with fail
                rw [← hW3]
                clear hW3 t0 t1 t2
                go_region_held2 (fun W => W.cell? ⟨w1.heap.size, 1, none⟩ = some (.slice (some ⟨rb, ro, none⟩) x.right.length x.rc) ∧ W.cell? ⟨rb, ro + k * 6, none⟩ = some (.int .i64 sk) ∧ W.cell? ⟨rb, ro + k * 6 + 1, none⟩ = some (.int .u64 (wdI ss 0)) ∧ W.cell? ⟨rb, ro + k * 6 + 2, none⟩ = some (.int .u64 (wdI ss 1))
                    ∧ W.cell? ⟨rb, ro + k * 6 + 3, none⟩ = some (.int .u64 (wdI ss 2)) ∧ W.cell? ⟨rb, ro + k * 6 + 4, none⟩ = some (.int .u64 (wdI ss 3)) ∧ W.cell? ⟨rb, ro + k * 6 + 5, none⟩ = some (.int .i64 so)
                    ∧ W.cell? ⟨wr.heap.size, 0, none⟩ = some (.int .i64 tp) ∧ W.cell? ⟨wr.heap.size, 1, none⟩ = some (.int .u8 tb) ∧ W.cell? ⟨wr.heap.size, 2, none⟩ = some (.slice ta tk.length tc)) (go_keep)
                  ((go_at_call 91; (with_reducible refine HC3.out.mono ?_); rintro e w5 ⟨rfl, hB5⟩; have hB5' : Below W3.heap.size W3 w5 := ⟨hB5.os, hB5.tape, hB5.output, hB5.size, hB5.block⟩; have y0 := (World.cell?_of_block (hB5'.block wr.heap.size l3)).trans v0; have y1 := (World.cell?_of_block (hB5'.block wr.heap.size l3)).trans v1; have y2 := (World.cell?_of_block (hB5'.block wr.heap.size l3)).trans v2; have l4 : rb < W3.heap.size := (by omega); have l5 : w1.heap.size < W3.heap.size := (by omega); have x0 := (World.cell?_of_block (hB5'.block rb l4)).trans z0; have x1 := (World.cell?_of_block (hB5'.block rb l4)).trans z1; have x2 := (World.cell?_of_block (hB5'.block rb l4)).trans z2; have x3 := (World.cell?_of_block (hB5'.block rb l4)).trans z3; have x4 := (World.cell?_of_block (hB5'.block rb l4)).trans z4; have x5 := (World.cell?_of_block (hB5'.block rb l4)).trans z5; have x6 := (World.cell?_of_block (hB5'.block w1.heap.size l5)).trans z6; have HB5 := Lib.hid (hB.out.trans ((HB3w.out.trans (hB5'.mono HB3w.out.size)).mono hB.out.size)); clear hB5 hB5'))
                clear v0 v1 v2 z0 z1 z2 z3 z4 z5 z6
                cases r with
                | false =>
                  have HR3 : Hid (q = false) := Lib.hid (by rw [HX2.out, HVf.out rfl])
                  go_wp2
                  go_ret
                  exact ⟨by rw [HR3.out]; try rfl, HB4.out.trans (HB5.out.mono HB4.out.size)⟩
                | true =>
                  go_wp2
                  go_roundw
                  case rel => exact ⟨k + 1, by go_num, by omega, HV, HB5⟩
                  case measure => simp [intOf]; omega
              · obtain rfl : k = kids.length := by omega
                have hA2 := hA.out
                rw [List.take_of_length_le (by rw [List.length_zip, HL2.out]; omega)] at hA2
                have HR3 : Hid (q = true) := Lib.hid (by rw [HX2.out, hA2])
                go_wp2
                go_ret
                exact ⟨by rw [HR3.out]; try rfl, HB4.out.trans (hB.out.mono HB4.out.size)⟩
end Go.Proofs.YtodnlcbnbkkanaaGreatDoor
end
section
namespace Go.Proofs.YtodnlcbnbkkanaaGreatDoor
open Go Go.RowKit Go.Vals

def ctI (g : GramM) (t : TreeM) : Int := if !(checkB g) then 160 else if !(nestB 16384 t) then 3 else if !(treeB g 16384 t) then 163 else 0

set_option maxRecDepth 100000 in
set_option maxHeartbeats 2000000 in
theorem checkTree_any (g : GramM) (t : TreeM) (w : World) (hg : GIn w g) (hf : FitG g) (ht : TreeIn w t) (hfit : TFit 16384 t) :
    Calls Tryz.prog 35 #[gramV g, treeV t] w fun e w' => e = .returned (.int .i64 (ctI g t)) ∧ Below w.heap.size w w' := by
  obtain ⟨W1, hW1⟩ : ∃ W, W = (w.alloc (.cells (gramC g) 27)).alloc (.cells (treeC t) 70) := ⟨_, rfl⟩
  have hB1 : Below w.heap.size w W1 := by rw [hW1]; exact ((Below.refl _ _).alloc (Nat.le_refl _) _).alloc (by simp) _
  have hb1 : Blk W1 w.heap.size 27 (gramC g) := by rw [hW1]; exact (Blk.new w 27 (gramC g)).alloc _
  have hb2 : Blk W1 (w.heap.size + 1) 70 (treeC t) := by
    have h := Blk.new (w.alloc (.cells (gramC g) 27)) 70 (treeC t)
    rw [World.size_alloc] at h
    rw [hW1]; exact h
  have HB := Lib.hid hB1
  have HCk := Lib.hid (check_any g W1 (hg.below hB1) hf)
  have HNe := Lib.hid (fun W (hW : Below W1.heap.size W1 W) => nested_any 16384 (by omega) t W (TreeIn.below (hB1.trans (hW.mono hB1.size)) t ht) hfit)
  rw [show ((16384 : Nat) : Int) = 16384 from rfl] at HNe
  have HTr := Lib.hid (fun (h : nestB 16384 t = true) W (hW : Below W1.heap.size W1 W) => isTree_any g hf.fit.right hf.fit.prods 16384 t w.heap.size W (hb1.below hW hb1.lt) (hg.below (hB1.trans (hW.mono hB1.size))) (TreeIn.below (hB1.trans (hW.mono hB1.size)) t ht) hfit h)
  have HR : Hid (ctI g t = if !(checkB g) then 160 else if !(nestB 16384 t) then 3 else if !(treeB g 16384 t) then 163 else 0) := Lib.hid rfl
  have HW := Lib.hid hW1
  have Hb1 := Lib.hid hb1
  have Hb2 := Lib.hid hb2
  have l1 := hb1.lt
  have l2 := hb2.lt
  have c := hb1.gram
  clear hg hf ht hfit hB1 hb1 hb2 hW1
  generalize ctI g t = q at *
  generalize treeB g 16384 t = r3 at *
  cases hc : checkB g with
  | false =>
    have HR3 : Hid (q = 160) := Lib.hid (by rw [HR.out, hc]; rfl)
    rw [hc] at HCk
    have he : errI false = 160 := rfl
    rw [he] at HCk
    clear he hc HR HNe HTr c
    obtain ⟨p, b, ka, kc, kids⟩ := t
    unfold gramV treeV gramC treeC at *
    go_enter Tryz.func35, Tryz.ntmps35
    go_wp2_with fail
    rw [← HW.out]
    with_reducible refine HCk.out.mono ?_
    rintro e w3 ⟨rfl, hB3⟩
    have HF := Lib.hid (HB.out.trans (hB3.mono HB.out.size))
    clear hB3
    go_wp2
    go_ret
    exact ⟨by rw [HR3.out]; try rfl, HF.out⟩
  | true =>
    rw [hc] at HCk
    have he : errI true = 0 := rfl
    rw [he] at HCk
    clear he c
    cases hn : nestB 16384 t with
    | false =>
      have HR3 : Hid (q = 3) := Lib.hid (by rw [HR.out, hc, hn]; rfl)
      rw [hn] at HNe
      clear hc hn HR HTr
      obtain ⟨p, b, ka, kc, kids⟩ := t
      unfold gramV treeV gramC treeC at *
      go_enter Tryz.func35, Tryz.ntmps35
      go_wp2_with fail
      rw [← HW.out]
      with_reducible refine HCk.out.mono ?_
      rintro e w3 ⟨rfl, hB3⟩
      have HB3 := Lib.hid (HB.out.trans (hB3.mono HB.out.size))
      have hk := Hb2.out.below hB3 Hb2.out.lt
      have d0 := hk.cell 0
      have d1 := hk.cell 1
      have d2 := hk.cell 2
      simp only [List.getElem?_toArray, List.getElem?_cons_zero, List.getElem?_cons_succ] at d0 d1 d2
      have l3 := hk.lt
      have HN3 := Lib.hid (HNe.out w3 hB3)
      clear hB3 hk
      go_wp2_with fail
      with_reducible refine HN3.out.mono ?_
      rintro e w4 ⟨rfl, hB4⟩
      have HF := Lib.hid (HB3.out.trans (hB4.mono HB3.out.size))
      clear hB4
      go_wp2
      go_ret
      exact ⟨by rw [HR3.out]; try rfl, HF.out⟩
    | true =>
      have HR2 : Hid (q = if !r3 then 163 else 0) := Lib.hid (by rw [HR.out, hc, hn]; rfl)
      have HTr := Lib.hid (HTr.out hn)
      rw [hn] at HNe
      clear hc hn HR
      obtain ⟨p, b, ka, kc, kids⟩ := t
      unfold gramV treeV gramC treeC at *
      go_enter Tryz.func35, Tryz.ntmps35
      go_wp2_with fail
      rw [← HW.out]
      with_reducible refine HCk.out.mono ?_
      rintro e w3 ⟨rfl, hB3⟩
      have HB3 := Lib.hid (HB.out.trans (hB3.mono HB.out.size))
      have HB3' := Lib.hid hB3
      have hk := Hb2.out.below hB3 Hb2.out.lt
      have d0 := hk.cell 0
      have d1 := hk.cell 1
      have d2 := hk.cell 2
      simp only [List.getElem?_toArray, List.getElem?_cons_zero, List.getElem?_cons_succ] at d0 d1 d2
      have l3 := hk.lt
      have Hk3 := Lib.hid hk
      have HN3 := Lib.hid (HNe.out w3 hB3)
      clear hB3 hk
      go_wp2_with fail
      with_reducible refine HN3.out.mono ?_
      rintro e w4 ⟨rfl, hB4⟩
      have HB4 := Lib.hid (HB3.out.trans (hB4.mono HB3.out.size))
      have hk := Hk3.out.below hB4 Hk3.out.lt
      have f0 := hk.cell 0
      have f1 := hk.cell 1
      have f2 := hk.cell 2
      simp only [List.getElem?_toArray, List.getElem?_cons_zero, List.getElem?_cons_succ] at f0 f1 f2
      have l4 := hk.lt
      have HT4 := Lib.hid (HTr.out w4 (HB3'.out.trans (hB4.mono HB3'.out.size)))
      clear hB4 hk d0 d1 d2
      go_wp2_with fail
      with_reducible refine HT4.out.mono ?_
      rintro e w5 ⟨rfl, hB5⟩
      have HF := Lib.hid (HB4.out.trans (hB5.mono HB4.out.size))
      clear hB5
      cases r3 with
      | false =>
        have HR3 : Hid (q = 163) := Lib.hid (by rw [HR2.out]; rfl)
        go_wp2
        go_ret
        exact ⟨by rw [HR3.out]; try rfl, HF.out⟩
      | true =>
        have HR3 : Hid (q = 0) := Lib.hid (by rw [HR2.out]; rfl)
        go_wp2
        go_ret
        exact ⟨by rw [HR3.out]; try rfl, HF.out⟩
end Go.Proofs.YtodnlcbnbkkanaaGreatDoor
end
section
namespace Go.Proofs.YtodnlcbnbkkanaaGreatDoor
open Go Go.RowKit

def ub (l : List Int) : List UInt8 := l.map fun b => UInt8.ofNat b.toNat
theorem ub_append (a b : List Int) : ub (a ++ b) = ub a ++ ub b := List.map_append
theorem ub_length (a : List Int) : (ub a).length = a.length := List.length_map _
def kidsOf : TreeM → List TreeM | .node _ _ _ _ kids => kids
theorem treeB_out {g : GramM} {d : Nat} {p b : Int} {ka : Option Addr} {kc : Nat} {kids : List TreeM} (h : treeB g (d + 1) (.node p b ka kc kids) = true) :
    ∃ (m : Nat) (x : ProdM), p = m ∧ g.prods[m]? = some x ∧ treeP x ∧ kids.length = x.right.length ∧ ∀ (i : Nat) (s : SymM) (k : TreeM), x.right[i]? = some s → kids[i]? = some k → ofTB g (treeB g d) s k = true := by
  unfold treeB at h
  simp only [Bool.and_eq_true] at h
  obtain ⟨⟨h1, _⟩, h3⟩ := h
  obtain ⟨m, e, hm⟩ := numB_nat h1
  subst e
  rw [Int.toNat_natCast] at h3
  obtain ⟨x, hx⟩ : ∃ x, g.prods[m]? = some x := ⟨_, List.getElem?_eq_getElem hm⟩
  rw [hx] at h3
  simp only [Bool.and_eq_true, List.all_eq_true] at h3
  obtain ⟨⟨h4, h5⟩, h6⟩ := h3
  refine ⟨m, x, rfl, hx, by simpa using h4, by simpa using h5, fun i s k hs hk => ?_⟩
  refine h6 (k, s) ?_
  rw [List.mem_iff_getElem?]
  refine ⟨i, ?_⟩
  rw [List.getElem?_zip_eq_some]
  exact ⟨hk, hs⟩
theorem txs_kids {T : Nat → List UInt8 → Prop} {f : TreeM → List Int} : ∀ (r : List SymM) (kids : List TreeM), kids.length = r.length → (∀ (i : Nat) (s : SymM) (k : TreeM), r[i]? = some s → kids[i]? = some k → SymT T s (ub (f k))) → TXs T r (ub (kids.flatMap f)) := by
  intro r
  induction r with
  | nil =>
    intro kids hl _
    have : kids = [] := List.length_eq_zero_iff.1 hl
    subst this
    rfl
  | cons s r ih =>
    intro kids hl h
    cases kids with
    | nil => cases hl
    | cons k kids =>
      rw [List.flatMap_cons, ub_append]
      exact ⟨_, _, rfl, h 0 s k rfl rfl, ih kids (by simpa using hl) (fun i s' k' hs hk => h (i + 1) s' k' hs hk)⟩
theorem sym_text {g : GramM} {d : Nat} (ih : ∀ t, treeB g d t = true → nestB d t = true → TFit d t → ∀ x, g.prods[(prodOf t).toNat]? = some x → TX g x.left.toNat (ub (yieldL d t))) {s : SymM} (hk : s.kind = 0 ∨ s.kind = 1) {k : TreeM} (h : ofTB g (treeB g d) s k = true) (hn : nestB d k = true) (hf : TFit d k) : SymT (TX g) s (ub (yieldL d k)) := by
  obtain ⟨p, b, ka, kc, kids⟩ := k
  unfold ofTB at h
  dsimp only at h
  rcases hk with hk | hk
  · rw [if_pos hk] at h
    simp only [Bool.and_eq_true] at h
    obtain ⟨⟨h1, _⟩, h3⟩ := h
    have hp : p = -1 := by simpa using h1
    cases d with
    | zero => unfold nestB at hn; cases hn
    | succ d =>
      obtain ⟨_, ⟨m, hb, hm⟩, _⟩ := hf
      refine .inr ⟨by omega, UInt8.ofNat b.toNat, ?_, ?_⟩
      · unfold yieldL
        rw [if_pos (by omega)]
        rfl
      · rw [UInt8.toNat_ofNat', Nat.mod_eq_of_lt (by omega)]
        exact h3
  · rw [if_neg (by omega)] at h
    simp only [Bool.and_eq_true] at h
    obtain ⟨h1, h2⟩ := h
    cases hx : g.prods[p.toNat]? with
    | none => rw [hx] at h2; cases h2
    | some x =>
      rw [hx] at h2
      have h2 : x.left = s.sort := by simpa using h2
      exact .inl ⟨hk, by rw [← h2]; exact ih _ h1 hn hf x hx⟩
theorem tree_tx {g : GramM} (hm : MayB g) : ∀ (d : Nat) (t : TreeM), treeB g d t = true → nestB d t = true → TFit d t → ∀ x, g.prods[(prodOf t).toNat]? = some x → TX g x.left.toNat (ub (yieldL d t)) := by
  intro d
  induction d with
  | zero => intro t h; unfold treeB at h; cases h
  | succ d ih =>
    rintro ⟨p, b, ka, kc, kids⟩ h hn hf x hx
    obtain ⟨m, y, e, hy, hr, hl, hk⟩ := treeB_out h
    subst e
    have hx : g.prods[((m : Nat) : Int).toNat]? = some x := hx
    rw [Int.toNat_natCast, hy] at hx
    cases hx
    have hn : kids.all (nestB d) = true := hn
    rw [List.all_eq_true] at hn
    obtain ⟨_, _, hf⟩ := hf
    have hym := List.mem_of_getElem? hy
    have e2 : yieldL (d + 1) (.node ((m : Nat) : Int) b ka kc kids) = kids.flatMap (yieldL d) := by
      rw [yieldL, if_neg (by omega)]
    rw [e2]
    exact TX.mk hym hr (txs_kids x.right kids hl fun i s k hs hki => sym_text ih (hm.kind x hym s (List.mem_of_getElem? hs)) (hk i s k hs hki) (hn k (List.mem_of_getElem? hki)) (hf k (List.mem_of_getElem? hki)))
structure GoesH (g : GramM) (d : Nat) (t : TreeM) (text : List UInt8) (at_ : Nat) (whole : Bool) (rest : List UInt8) : Prop where
  le : at_ ≤ text.length
  txt : text.drop at_ = ub (yieldL d t) ++ rest
  nest : nestB d t = true
  fit : TFit d t
  kind : prodOf t < 0 ∨ (treeB g d t = true ∧ (whole = true → ∀ x, g.prods[(prodOf t).toNat]? = some x → Ctx g x.left.toNat rest))
theorem flat_at {f : TreeM → List Int} {kids : List TreeM} {i : Nat} {k : TreeM} (h : kids[i]? = some k) : kids.flatMap f = (kids.take i).flatMap f ++ (f k ++ (kids.drop (i + 1)).flatMap f) := by
  have hl := (List.getElem?_eq_some_iff.1 h).1
  have he := (List.getElem?_eq_some_iff.1 h).2
  conv => lhs; rw [← List.take_append_drop i kids, List.drop_eq_getElem_cons hl, he]
  rw [List.flatMap_append, List.flatMap_cons]
theorem flat_snoc {f : TreeM → List Int} {kids : List TreeM} {i : Nat} {k : TreeM} (h : kids[i]? = some k) : ((kids.take (i + 1)).flatMap f).length = ((kids.take i).flatMap f).length + (f k).length := by
  rw [take_snoc kids i k h, List.flatMap_append, List.length_append]
  simp
theorem GoesH.kid {g : GramM} (hm : MayB g) {d : Nat} {m : Nat} {b : Int} {ka : Option Addr} {kc : Nat} {kids : List TreeM} {text : List UInt8} {at_ : Nat} {whole : Bool} {rest : List UInt8} (h : GoesH g (d + 1) (.node (m : Int) b ka kc kids) text at_ whole rest) {i : Nat} {k : TreeM} (hk : kids[i]? = some k) :
    GoesH g d k text (at_ + ((kids.take i).flatMap (yieldL d)).length) whole (ub ((kids.drop (i + 1)).flatMap (yieldL d)) ++ rest) := by
  obtain ⟨hle, h1, h2, h3, h4⟩ := h
  have hn : kids.all (nestB d) = true := h2
  rw [List.all_eq_true] at hn
  obtain ⟨_, _, hf⟩ := h3
  have hkm := List.mem_of_getElem? hk
  have e2 : yieldL (d + 1) (.node ((m : Nat) : Int) b ka kc kids) = kids.flatMap (yieldL d) := by
    rw [yieldL, if_neg (by omega)]
  rcases h4 with h4 | ⟨h4, h5⟩
  · have : ((m : Nat) : Int) < 0 := h4
    omega
  obtain ⟨m', x, e, hx, hr, hl, hks⟩ := treeB_out h4
  have e' : m = m' := by omega
  subst e'
  obtain ⟨s, hs⟩ : ∃ s, x.right[i]? = some s := ⟨_, List.getElem?_eq_getElem (by rw [← hl]; exact (List.getElem?_eq_some_iff.1 hk).1)⟩
  have hof := hks i s k hs hk
  have hxm := List.mem_of_getElem? hx
  refine ⟨?_, ?_, hn k hkm, hf k hkm, ?_⟩
  · have h9 := congrArg List.length h1
    rw [List.length_drop, List.length_append, ub_length, e2, flat_at hk, List.length_append, List.length_append] at h9
    omega
  · rw [e2, flat_at hk, ub_append, ub_append] at h1
    rw [← List.drop_drop, h1, List.append_assoc, ← ub_length ((kids.take i).flatMap (yieldL d)), List.drop_left, List.append_assoc]
  · rcases hm.kind x hxm s (List.mem_of_getElem? hs) with hk0 | hk1
    · obtain ⟨p, b', ka', kc', kids'⟩ := k
      unfold ofTB at hof
      dsimp only at hof
      rw [if_pos hk0] at hof
      simp only [Bool.and_eq_true] at hof
      have hp : p = -1 := by simpa using hof.1.1
      exact .inl (by show p < 0; omega)
    · obtain ⟨p, b', ka', kc', kids'⟩ := k
      unfold ofTB at hof
      dsimp only at hof
      rw [if_neg (by omega)] at hof
      simp only [Bool.and_eq_true] at hof
      refine .inr ⟨hof.1, fun hw y hy => ?_⟩
      have hc := h5 hw x (by show g.prods[((m : Nat) : Int).toNat]? = some x; rw [Int.toNat_natCast]; exact hx)
      have hy : g.prods[p.toNat]? = some y := hy
      have hof2 := hof.2
      rw [hy] at hof2
      have hys : y.left = s.sort := by simpa using hof2
      rw [hys]
      refine Ctx.step hxm hr (fun z hz => ?_) hs hk1 hc ?_
      · obtain ⟨j, hj⟩ := List.mem_iff_getElem?.1 hz
        obtain ⟨kj, hkj⟩ : ∃ kj, kids[j]? = some kj := ⟨_, List.getElem?_eq_getElem (by rw [hl]; exact (List.getElem?_eq_some_iff.1 hj).1)⟩
        have hkjm := List.mem_of_getElem? hkj
        exact ⟨_, sym_text (tree_tx hm d) (hm.kind x hxm z hz) (hks j z kj hj hkj) (hn kj hkjm) (hf kj hkjm)⟩
      · refine txs_kids _ _ (by rw [List.length_drop, List.length_drop, hl]) fun j s' k' hs' hk' => ?_
        rw [List.getElem?_drop] at hs' hk'
        have hkm' := List.mem_of_getElem? hk'
        exact sym_text (tree_tx hm d) (hm.kind x hxm s' (List.mem_of_getElem? hs')) (hks _ s' k' hs' hk') (hn k' hkm') (hf k' hkm')

theorem GoesH.end_ {g : GramM} {d : Nat} {t : TreeM} {text : List UInt8} {at_ : Nat} {whole : Bool} {rest : List UInt8} (h : GoesH g d t text at_ whole rest) : at_ + (yieldL d t).length + rest.length = text.length := by
  have h9 := congrArg List.length h.txt
  rw [List.length_drop, List.length_append, ub_length] at h9
  have := h.le
  omega

structure ToldL (g : GramM) (F FO : List BS) (L N E : List Bool) (S : List Int) : Prop where
  f : FirstP g F
  fo : FollowP g FO
  l : Live g L
  n : NullP g N
  e : EndsP g E
  s : ShortP g S
theorem ToldL.tx {g : GramM} (hm : MayB g) (hs : MaySet g) {F FO : List BS} {L N E : List Bool} {S : List Int} (h : ToldL g F FO L N E S) {k : Nat} {t : List UInt8} (ht : TX g k t) :
    k < g.sorts.length ∧ L[k]? = some true ∧ (∃ v : Int, S[k]? = some v ∧ 0 ≤ v ∧ v ≤ t.length) ∧ (t = [] → N[k]? = some true) ∧ ∀ b u, t = b :: u → ∃ s, F[k]? = some s ∧ s.getLsbD b.toNat = true := by
  have hkn : k < g.sorts.length := by
    obtain ⟨x, hx, _, hl, _⟩ := ht.out
    obtain ⟨k', e1, e2⟩ := hm.left x hx
    rw [e1, Int.toNat_natCast] at hl
    omega
  refine ⟨hkn, (h.l.2 k).2 ((pv_iff hs).2 ⟨t, ht⟩), ?_, fun e => (h.n.2 k).2 (by rw [← e]; exact ht), fun b u e => ?_⟩
  · obtain ⟨v, hv⟩ : ∃ v, S[k]? = some v := ⟨_, List.getElem?_eq_getElem (by rw [h.s.1]; exact hkn)⟩
    rcases h.s.2 k v hv with ⟨_, e⟩ | ⟨t', _, e, h3⟩
    · exact absurd ht (e t)
    · have := h3 t ht
      exact ⟨v, hv, by omega, by omega⟩
  · obtain ⟨s, hs'⟩ : ∃ s, F[k]? = some s := ⟨_, List.getElem?_eq_getElem (by rw [h.f.1]; exact hkn)⟩
    exact ⟨s, hs', (h.f.2 k s hs' b).2 ⟨u, by rw [← e]; exact ht⟩⟩
theorem ToldL.ctx {g : GramM} {F FO : List BS} {L N E : List Bool} {S : List Int} (h : ToldL g F FO L N E S) {k : Nat} (hk : k < g.sorts.length) {u : List UInt8} (hu : Ctx g k u) :
    (u = [] → E[k]? = some true) ∧ ∀ b v, u = b :: v → ∃ s, FO[k]? = some s ∧ s.getLsbD b.toNat = true := by
  constructor
  · intro e
    obtain ⟨B, hB, he⟩ := h.e
    obtain ⟨b, hb⟩ : ∃ b, B[k]? = some b := ⟨_, List.getElem?_eq_getElem (by rw [hB.1]; exact hk)⟩
    rw [he, List.getElem?_map, hb]
    show some b.fin = some true
    rw [(hB.2 k b hb).2.2.2 (by rw [← e]; exact hu)]
  · intro c v e
    obtain ⟨B, hB, he⟩ := h.fo
    obtain ⟨b, hb⟩ : ∃ b, B[k]? = some b := ⟨_, List.getElem?_eq_getElem (by rw [hB.1]; exact hk)⟩
    refine ⟨b.bytes, by rw [he, List.getElem?_map, hb]; rfl, ((hB.2 k b hb).2.1 c).2 ⟨v, by rw [← e]; exact hu⟩⟩
end Go.Proofs.YtodnlcbnbkkanaaGreatDoor
end
