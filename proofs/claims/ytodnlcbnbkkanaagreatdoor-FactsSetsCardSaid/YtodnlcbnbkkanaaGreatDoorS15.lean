import Derived.Deep.QuietTactic
import Derived.BigQuiet
import Derived.IntWalk
import Derived.Deep.RegionLaw
import Derived.Deep.RegionWith
import Derived.Deep.DeepCutAuto
import Derived.Deep.RegionHeld3
import Derived.Deep.CutRange
import Derived.Deep.LoopGhost
import Derived.Test.YtodnlcbnbkkanaaGreatDoorS10
import Derived.Test.YtodnlcbnbkkanaaGreatDoorS11
import Derived.Test.YtodnlcbnbkkanaaGreatDoorS13
import Derived.Test.YtodnlcbnbkkanaaGreatDoorS14
section
namespace Go.Proofs.YtodnlcbnbkkanaaGreatDoor
open Go Go.RowKit

def BacksPost (g : GramM) (w : World) (e : Ending) (w' : World) : Prop := ∃ (B : List BackM) (Bb : Nat), BackP g B ∧ e = .returned (.slice (some ⟨Bb, 0, none⟩) g.sorts.length g.sorts.length) ∧ w.heap.size ≤ Bb ∧ Blk w' Bb 123 (backsC B) ∧ Below w.heap.size w w'
def put6 (W : World) (B o : Nat) (t : BackM) : World := (((((W.setCell ⟨B, o, none⟩ (.bool t.there)).setCell ⟨B, o + 1, none⟩ (.int .u64 (wdI t.bytes 0))).setCell ⟨B, o + 2, none⟩ (.int .u64 (wdI t.bytes 1))).setCell ⟨B, o + 3, none⟩ (.int .u64 (wdI t.bytes 2))).setCell ⟨B, o + 4, none⟩ (.int .u64 (wdI t.bytes 3))).setCell ⟨B, o + 5, none⟩ (.bool t.fin)
theorem put6_blk {W : World} {B k : Nat} {F : List BackM} {t : BackM} (h : Blk W B 123 (backsC F)) (hk : k < F.length) : Blk (put6 W B (k * 6) t) B 123 (backsC (F.set k t)) := by
 have h6 : Blk (put6 W B (k * 6) t) B 123 _ := (((((h.set (k * 6) (.bool t.there)).set (k * 6 + 1) (.int .u64 (wdI t.bytes 0))).set (k * 6 + 2) (.int .u64 (wdI t.bytes 1))).set (k * 6 + 3) (.int .u64 (wdI t.bytes 2))).set (k * 6 + 4) (.int .u64 (wdI t.bytes 3))).set (k * 6 + 5) (.bool t.fin)
 have hz : k * 6 + 6 ≤ (backsC F).size := by rw [backsC_size]; omega
 rw [backsC_put (t := t) hk (ds := ((((((backsC F).setIfInBounds (k * 6) (.bool t.there)).setIfInBounds (k * 6 + 1) (.int .u64 (wdI t.bytes 0))).setIfInBounds (k * 6 + 2) (.int .u64 (wdI t.bytes 1))).setIfInBounds (k * 6 + 3) (.int .u64 (wdI t.bytes 2))).setIfInBounds (k * 6 + 4) (.int .u64 (wdI t.bytes 3))).setIfInBounds (k * 6 + 5) (.bool t.fin)) (by simp only [Array.size_setIfInBounds]) (fun j hj => by
  rw [Array.getElem?_setIfInBounds_ne (by omega), Array.getElem?_setIfInBounds_ne (by omega), Array.getElem?_setIfInBounds_ne (by omega), Array.getElem?_setIfInBounds_ne (by omega), Array.getElem?_setIfInBounds_ne (by omega), Array.getElem?_setIfInBounds_ne (by omega)]) (backAt_of (by
   rw [Array.getElem?_setIfInBounds_ne (by omega), Array.getElem?_setIfInBounds_ne (by omega), Array.getElem?_setIfInBounds_ne (by omega), Array.getElem?_setIfInBounds_ne (by omega), Array.getElem?_setIfInBounds_ne (by omega), Array.getElem?_setIfInBounds_self_of_lt (by omega)]) (setAt_of fun j hj => by
   have : j = 0 ∨ j = 1 ∨ j = 2 ∨ j = 3 := by omega
   rcases this with rfl | rfl | rfl | rfl
   ·rw [Array.getElem?_setIfInBounds_ne (by omega), Array.getElem?_setIfInBounds_ne (by omega), Array.getElem?_setIfInBounds_ne (by omega), Array.getElem?_setIfInBounds_ne (by omega), Nat.add_zero, Array.getElem?_setIfInBounds_self_of_lt (by simp only [Array.size_setIfInBounds]; omega)]
   ·rw [Array.getElem?_setIfInBounds_ne (by omega), Array.getElem?_setIfInBounds_ne (by omega), Array.getElem?_setIfInBounds_ne (by omega), Array.getElem?_setIfInBounds_self_of_lt (by simp only [Array.size_setIfInBounds]; omega)]
   ·rw [Array.getElem?_setIfInBounds_ne (by omega), Array.getElem?_setIfInBounds_ne (by omega), Array.getElem?_setIfInBounds_self_of_lt (by simp only [Array.size_setIfInBounds]; omega)]
   ·rw [Array.getElem?_setIfInBounds_ne (by omega), Array.getElem?_setIfInBounds_self_of_lt (by simp only [Array.size_setIfInBounds]; omega)]) (by rw [Array.getElem?_setIfInBounds_self_of_lt (by simp only [Array.size_setIfInBounds]; omega)]))] at h6
 exact h6
theorem put6_low {N : Nat} {w W : World} {B o : Nat} {t : BackM} (h : Below N w W) (hB : N ≤ B) : Below N w (put6 W B o t) :=
 (((((h.setCell (p := ⟨B, o, none⟩) hB _).setCell (p := ⟨B, o + 1, none⟩) hB _).setCell (p := ⟨B, o + 2, none⟩) hB _).setCell (p := ⟨B, o + 3, none⟩) hB _).setCell (p := ⟨B, o + 4, none⟩) hB _).setCell (p := ⟨B, o + 5, none⟩) hB _
theorem put6_other {W : World} {B o C t : Nat} {b : BackM} {cs : Array Value} (h : Blk W C t cs) (hne : C ≠ B) : Blk (put6 W B o b) C t cs :=
 (((((h.other (a := ⟨B, o, none⟩) hne _).other (a := ⟨B, o + 1, none⟩) hne _).other (a := ⟨B, o + 2, none⟩) hne _).other (a := ⟨B, o + 3, none⟩) hne _).other (a := ⟨B, o + 4, none⟩) hne _).other (a := ⟨B, o + 5, none⟩) hne _
theorem noB_sound (W : List UInt8 → Prop) : SnH W noB := ⟨fun e => (by cases e), fun c e => (by simp [noB] at e), fun e => (by cases e)⟩
theorem soundB_none {g : GramM} (hs : MaySet g) (n : Nat) (h : ¬ PV g g.start.toNat) : SoundB g (List.replicate n noB) := by
 refine ⟨fun k b hk => ?_, fun ht => absurd ((pv_iff hs).2 ht) h⟩
 rw [List.getElem?_replicate] at hk
 split at hk
 ·cases hk; exact noB_sound _
 ·cases hk
theorem soundB_start {g : GramM} (hs : MaySet g) (n : Nat) (h : PV g g.start.toNat) (hn : g.start.toNat < n) : SoundB g ((List.replicate n noB).set g.start.toNat ⟨true, 0#256, true⟩) := by
 have hc := Ctx.start ((pv_iff hs).1 h)
 refine ⟨fun k b hk => ?_, fun _ => ⟨⟨true, 0#256, true⟩, List.getElem?_set_self (by simpa using hn), rfl, rfl⟩⟩
 rw [List.getElem?_set] at hk
 split at hk
 ·next e =>
  split at hk
  ·cases hk; subst e
   exact ⟨fun _ => ⟨[], hc⟩, fun c e => (by simp at e), fun _ => hc⟩
  ·cases hk
 ·rw [List.getElem?_replicate] at hk
  split at hk
  ·cases hk; exact noB_sound _
  ·cases hk

set_option maxRecDepth 100000 in
set_option maxHeartbeats 8000000 in
theorem backs_any (g : GramM) (hm : MayB g) (hs : MaySet g) (hf : Fit g) (w : World) (hg : GIn w g) : Calls Tryz.prog 79 #[gramV g] w (BacksPost g w) := by
 obtain ⟨st, hst, hstn⟩ := hm.start
 obtain ⟨W, hW⟩ : ∃ W, W = w.alloc (.cells (gramC g) 27) := ⟨_, rfl⟩
 have HW := Lib.hid hW
 have hlow : Below w.heap.size w W := by rw [hW]; exact (Below.refl _ _).alloc (Nat.le_refl _) _
 have hb : Blk W w.heap.size 27 (gramC g) := by rw [hW]; exact Blk.new w 27 _
 have HL := Lib.hid (And.intro hlow hb)
 have HMA := Lib.hid (And.intro hm (And.intro hs (And.intro hf hg)))
 have HLi := Lib.hid (fun V (hV : Below w.heap.size w V) => living_any g hm hf V (hg.below hV))
 have HSt := Lib.hid (And.intro hst hstn)
 clear hm hs hf hg hW hlow hb
 unfold gramV
 unfold gramV at HLi
 have HGC : Hid (gramC g = #[.slice g.sa g.sorts.length g.sc, .slice g.pa g.prods.length g.pc, .int .i64 g.start, .slice g.fa g.forbid.length g.fc, .slice g.wa g.follow.length g.wc]) := Lib.hid rfl
 go_enter Tryz.func79, Tryz.ntmps79
 go_upto_region 1 with fail
 rw [← HW.out]
 refine r1_any g HMA.out.1 HMA.out.2.1 HMA.out.2.2.1 w W HMA.out.2.2.2 HL.out.1 HL.out.2 (fun X V hV h118 h120 => ?_)
 unfold actB
 rename_i K hK
 refine hK _ _ ?_
 clear hK K
 go_wp2
 have hV2 : Below w.heap.size w V := HL.out.1.trans (hV.mono HL.out.1.size)
 refine r2_any g HMA.out.1 HMA.out.2.2.1 w V HMA.out.2.2.2 hV2 (HL.out.2.below hV HL.out.2.lt) (fun j => if j < 11 then X j else undef) (fun X2 V2 b hB2 e3 e4 e16 hbP => ?_)
 unfold actC
 rename_i K hK
 refine hK _ _ ?_
 clear hK K
 have e3 : X2 3 = X 3 := e3
 have e4 : X2 4 = X 4 := e4
 obtain ⟨Bx, u, v, p1, p2, p3, F, M, Bf, Be, hF, hM, huv, q4, q5, q6, q7⟩ := h118
 obtain ⟨Bh, u', r1, r2, r3, Bb, hu', r5, r6⟩ := h120
 have huv : u = .slice (some ⟨Bf, 0, none⟩) g.sorts.length g.sorts.length ∧ v = .slice (some ⟨Be, 0, none⟩) g.sorts.length g.sorts.length := by simpa using huv
 obtain ⟨rfl, rfl⟩ := huv
 subst hu'
 rw [e3, e4, e16, p1, r1]
 have hlow2 : Below w.heap.size w V2 := hV2.trans (hB2.mono hV2.size)
 have b27 := HL.out.2.below hV HL.out.2.lt
 have k27 := b27.below hB2 b27.lt
 have kx := p3.below hB2 p3.lt
 have kh := r3.below hB2 r3.lt
 have kb := r6.below hB2 r6.lt
 have kf := q6.below hB2 q6.lt
 have ke := q7.below hB2 q7.lt
 have hwW : w.heap.size < W.heap.size := HL.out.2.lt
 have HF := Lib.hid (And.intro hF hM)
 -- what is left, from the settled blocks on
 have HRest : Hid (∀ (B : List BackM) (V3 : World) (L : List Bool) (a : Option Addr) (c : Nat), Below w.heap.size w V3 → Blk V3 Bh 120 #[.slice (some ⟨Bb, 0, none⟩) g.sorts.length g.sorts.length] → Blk V3 Bx 118 #[.slice (some ⟨Bf, 0, none⟩) g.sorts.length g.sorts.length, .slice (some ⟨Be, 0, none⟩) g.sorts.length g.sorts.length] → Blk V3 Bb 123 (backsC B) → Blk V3 Bf 47 (setsC F) → Blk V3 Be 4 (bools M) → B.length = g.sorts.length → SoundB g B → Live g L → ∀ V4, OwnP V3.heap.size V4 a c (livL g L) → Below V3.heap.size V3 V4 → Calls Tryz.prog 67 #[.slice a (livL g L).length c, .func (.func 106) #[] #[.pointer (some ⟨Bh, 0, none⟩), .pointer (some ⟨Bx, 0, none⟩)]] V4 fun e w' => e = .returned (.tuple #[]) ∧ ∃ B', BackP g B' ∧ Below w.heap.size w w' ∧ Blk w' Bh 120 #[.slice (some ⟨Bb, 0, none⟩) g.sorts.length g.sorts.length] ∧ Blk w' Bb 123 (backsC B')) := Lib.hid (fun B V3 L a c h1 h2 h3 h4 h5 h6 h7 h8 hL V4 hO hB => by
  have hJ0 : KJ g w V3.heap.size Bh Bx Bb Bf Be g.sorts.length a c M L F B V4 := ⟨h2.below hB h2.lt, h3.below hB h3.lt, h4.below hB h4.lt, h5.below hB h5.lt, h6.below hB h6.lt, h7, h8, h1.trans (hB.mono h1.size), hO, by omega, h4.lt⟩
  refine (settle_any (livL g L) a c 106 #[.pointer (some ⟨Bh, 0, none⟩), .pointer (some ⟨Bx, 0, none⟩)] (fun _ _ => by kernel_rfl) (KJ g w V3.heap.size Bh Bx Bb Bf Be g.sorts.length a c M L F) (QuietB F M) sizeB (Nat.le_trans (livL_len g L) (Nat.le_trans HMA.out.1.prods (by omega))) (fun B W h => h.prods HMA.out.2.2.2) (fun B W V h hB => h.below hB) (backs_steps HMA.out.1 HMA.out.2.1 HMA.out.2.2.2 HF.out.2 hL HF.out.1) B V4 hJ0).mono ?_
  rintro e w' ⟨rfl, B', hJ, hq⟩
  exact ⟨rfl, B', backP_of HMA.out.1 HMA.out.2.1 HF.out.2 hL HF.out.1 hJ.len hJ.snd hq, hJ.low, hJ.bh, hJ.bb⟩)
 have hstn := HSt.out.2
 have hst := HSt.out.1
 have hstN : g.start.toNat = st := by rw [hst, Int.toNat_natCast]
 have hBb : w.heap.size ≤ Bb := by omega
 have HG2 : Hid (gramC g = #[.slice g.sa g.sorts.length g.sc, .slice g.pa g.prods.length g.pc, .int .i64 (st : Int), .slice g.fa g.forbid.length g.fc, .slice g.wa g.follow.length g.wc]) := Lib.hid (by rw [← hst]; rfl)
 have kz0 : (0 : Int) ≤ (st : Int) := by omega
 have kz1 : (st : Int) < (g.sorts.length : Int) := by omega
 clear hst HGC
 cases b with
 | false =>
  have hsnd := soundB_none (g := g) HMA.out.2.1 g.sorts.length (fun h => by have := hbP.2 h; cases this)
  rw [HG2.out] at k27
  obtain ⟨c0, c1, c2, c3, c4⟩ := cells5s k27
  have cl := k27.lt
  have HR := Lib.hid (fun L a c hL V4 hO hB => HRest.out (List.replicate g.sorts.length noB) V2 L a c hlow2 kh kx kb kf ke (by simp) hsnd hL V4 hO hB)
  have HL1 := HLi.out V2 hlow2
  unfold LivPost at HL1
  rw [HG2.out] at HL1
  have HL1 := Lib.hid HL1
  clear HLi HRest hsnd hbP k27 kx kh kb kf ke hlow2 hB2 hV hV2 b27 p3 r3 r6 q6 q7 hF hM
  go_wp2_with fail
  refine HL1.out.mono ?_
  rintro e w3 ⟨L, a, c, hL, rfl, hO, hB⟩
  have HR1 := Lib.hid (HR.out L a c hL w3 hO hB)
  clear HR hO hB HL1 c0 c1 c2 c3 c4
  go_wp2_with fail
  refine HR1.out.mono ?_
  rintro e w4 ⟨rfl, B', hP, hl4, hbh, hbb⟩
  have g0 := hbh.cell 0
  have gl := hbh.lt
  simp only [List.getElem?_toArray, List.getElem?_cons_zero] at g0
  have HE : Hid (BackP g B' ∧ Blk w4 Bb 123 (backsC B') ∧ Below w.heap.size w w4) := Lib.hid ⟨hP, hbb, hl4⟩
  clear hP hbb hl4 HR1 hbh
  go_wp2
  go_ret
  exact ⟨B', Bb, HE.out.1, rfl, hBb, HE.out.2.1, HE.out.2.2⟩
 | true =>
  have hsnd := soundB_start (g := g) HMA.out.2.1 g.sorts.length (hbP.1 rfl) (by rw [hstN]; exact hstn)
  rw [hstN] at hsnd
  rw [HG2.out] at k27
  obtain ⟨V3, hV3⟩ : ∃ V3, V3 = put6 V2 Bb (st * 6) ⟨true, 0#256, true⟩ := ⟨_, rfl⟩
  have hp : ∀ {C t : Nat} {cs : Array Value}, Blk V2 C t cs → C ≠ Bb → Blk V3 C t cs := fun h e => by rw [hV3]; exact put6_other h e
  have m27 := hp k27 (by omega)
  have mx := hp kx (blk_ne kx kb (by decide))
  have mh := hp kh (blk_ne kh kb (by decide))
  have mf := hp kf (blk_ne kf kb (by decide))
  have me := hp ke (blk_ne ke kb (by decide))
  have mb : Blk V3 Bb 123 (backsC ((List.replicate g.sorts.length noB).set st ⟨true, 0#256, true⟩)) := by rw [hV3]; exact put6_blk kb (by simpa using hstn)
  have mlow : Below w.heap.size w V3 := by rw [hV3]; exact put6_low hlow2 hBb
  have HV3 : Hid (V3 = (((((V2.setCell ⟨Bb, st * 6, none⟩ (.bool true)).setCell ⟨Bb, st * 6 + 1, none⟩ (.int .u64 0)).setCell ⟨Bb, st * 6 + 2, none⟩ (.int .u64 0)).setCell ⟨Bb, st * 6 + 3, none⟩ (.int .u64 0)).setCell ⟨Bb, st * 6 + 4, none⟩ (.int .u64 0)).setCell ⟨Bb, st * 6 + 5, none⟩ (.bool true)) := Lib.hid (by rw [hV3]; unfold put6; simp only [wdI_zero])
  have HR := Lib.hid (fun L a c hL V4 hO hB => HRest.out ((List.replicate g.sorts.length noB).set st ⟨true, 0#256, true⟩) V3 L a c mlow mh mx mb mf me (by simp) hsnd hL V4 hO hB)
  have HL1 := HLi.out V3 mlow
  unfold LivPost at HL1
  rw [HG2.out] at HL1
  have HL1 := Lib.hid HL1
  have HM27 := Lib.hid m27
  obtain ⟨c0, c1, c2, c3, c4⟩ := cells5s k27
  have cl := k27.lt
  have g0 := kh.cell 0
  have gl := kh.lt
  simp only [List.getElem?_toArray, List.getElem?_cons_zero] at g0
  have hba := backsC_at (L := List.replicate g.sorts.length noB) (k := st) (b := noB) (by rw [List.getElem?_replicate, if_pos hstn])
  obtain ⟨o0, oS, o5⟩ := hba.cells
  have d0 := (kb.cell (st * 6)).trans o0
  have d1 := (kb.cell (st * 6 + 1 + 0)).trans (set_cell oS (j := 0) (by decide))
  have d2 := (kb.cell (st * 6 + 1 + 1)).trans (set_cell oS (j := 1) (by decide))
  have d3 := (kb.cell (st * 6 + 1 + 2)).trans (set_cell oS (j := 2) (by decide))
  have d4 := (kb.cell (st * 6 + 1 + 3)).trans (set_cell oS (j := 3) (by decide))
  have d5 := (kb.cell (st * 6 + 5)).trans o5
  simp only [Nat.add_zero, Nat.add_assoc, Nat.reduceAdd] at d1 d2 d3 d4
  have f0 := kb.frozen (st * 6)
  have f1 := kb.frozen (st * 6 + 1)
  have f2 := kb.frozen (st * 6 + 2)
  have f3 := kb.frozen (st * 6 + 3)
  have f4 := kb.frozen (st * 6 + 4)
  have f5 := kb.frozen (st * 6 + 5)
  have dl := kb.lt
  clear HLi HRest hsnd hbP k27 kx kh kb kf ke hlow2 hB2 hV hV2 b27 p3 r3 r6 q6 q7 hF hM hV3 hp m27 mx mh mf me mb mlow hba o0 oS o5
  go_upto_region 4 with fail
  rw [← HV3.out]
  clear c0 c1 c2 c3 c4 cl g0 gl d0 d1 d2 d3 d4 d5 f0 f1 f2 f3 f4 f5 dl
  obtain ⟨c0, c1, c2, c3, c4⟩ := cells5s HM27.out
  have cl := HM27.out.lt
  go_wp2_with fail
  refine HL1.out.mono ?_
  rintro e w3 ⟨L, a, c, hL, rfl, hO, hB⟩
  have HR1 := Lib.hid (HR.out L a c hL w3 hO hB)
  clear HR hO hB HL1 c0 c1 c2 c3 c4
  go_wp2_with fail
  refine HR1.out.mono ?_
  rintro e w4 ⟨rfl, B', hP, hl4, hbh, hbb⟩
  have g0 := hbh.cell 0
  have gl := hbh.lt
  simp only [List.getElem?_toArray, List.getElem?_cons_zero] at g0
  have HE : Hid (BackP g B' ∧ Blk w4 Bb 123 (backsC B') ∧ Below w.heap.size w w4) := Lib.hid ⟨hP, hbb, hl4⟩
  clear hP hbb hl4 HR1 hbh
  go_wp2
  go_ret
  exact ⟨B', Bb, HE.out.1, rfl, hBb, HE.out.2.1, HE.out.2.2⟩
end Go.Proofs.YtodnlcbnbkkanaaGreatDoor
end
section
namespace Go.Proofs.YtodnlcbnbkkanaaGreatDoor
open Go Go.RowKit

def FollowP (g : GramM) (F : List BS) : Prop := ∃ B, BackP g B ∧ F = B.map (·.bytes)
theorem FollowP.unique {g : GramM} {F F' : List BS} (h : FollowP g F) (h' : FollowP g F') : F = F' := by
 obtain ⟨B, h1, rfl⟩ := h
 obtain ⟨B', h2, rfl⟩ := h'
 rw [h1.unique h2]

set_option maxRecDepth 100000 in
set_option maxHeartbeats 8000000 in
theorem follow_any (g : GramM) (hm : MayB g) (hs : MaySet g) (hf : Fit g) (w : World) (hg : GIn w g) : Calls Tryz.prog 54 #[gramV g] w (SetsPost w (FollowP g)) := by
 have hB1 : Below w.heap.size w (w.alloc (.cells (gramC g) 27)) := (Below.refl _ _).alloc (Nat.le_refl _) _
 have HC := Lib.hid (backs_any g hm hs hf _ (hg.below hB1))
 have HB := Lib.hid hB1
 have Hs1 := Lib.hid (And.intro hm.sorts1 hm.sorts2)
 unfold BacksPost at HC
 obtain ⟨n, hn⟩ : ∃ n, n = g.sorts.length := ⟨_, rfl⟩
 have hn1 : n ≤ 1000 := by rw [hn]; exact hm.sorts2
 have HN := Lib.hid hn
 obtain ⟨i0, hi, hz0, hz1, hz2⟩ := info_parts info47
 clear hm hs hf hg hB1
 unfold gramV gramC at *
 rw [← hn] at HC HB ⊢
 clear hn
 go_enter Tryz.func54, Tryz.ntmps54
 go_wp2_with fail
 refine HC.out.mono ?_
 rintro e w2 ⟨B, Bb, hP, rfl, hb1, hk, hB2⟩
 have HP := Lib.hid hP
 have hBn : B.length = n := by rw [hP.1, HN.out]
 have HK0 := Lib.hid hk
 have HB0 := Lib.hid (HB.out.trans (hB2.mono HB.out.size))
 have hbl := hk.lt
 have hw2 := HB0.out.size
 clear hP hb1 hk hB2 HC
 go_wp2
 go_loopw [3, 9] (fun v i wr => ∃ (k : Nat), i = .int .i64 k ∧ k ≤ n ∧ Hid (wr.ownsRow w2.heap.size 47 4 v k (cellsL cset ((B.take k).map (·.bytes)))) ∧ Hid (Blk wr Bb 123 (backsC B)) ∧ Hid (Below w.heap.size w wr) ∧ w2.heap.size ≤ wr.heap.size)
  (fun _ i _ => n - (intOf i).toNat)
 case atStart => exact ⟨0, rfl, Nat.zero_le _, Lib.hid (World.ownsRow_nil _ _ _ _), HK0, HB0, Nat.le_refl _⟩
 case round =>
  clear HB0 HK0
  obtain ⟨k, rfl, hk, hO, hK, hB, hsz⟩ := hrel
  by_cases hlt : k < n
  ·obtain ⟨b, hb⟩ : ∃ b, B[k]? = some b := ⟨_, List.getElem?_eq_getElem (by omega)⟩
   have HT : Hid ((B.take (k + 1)).map (·.bytes) = (B.take k).map (·.bytes) ++ [b.bytes]) := Lib.hid (by rw [take_snoc B k b hb, List.map_append]; rfl)
   obtain ⟨o0, oS, o5⟩ := (backsC_at hb).cells
   have d0 := (hK.out.cell (k * 6)).trans o0
   have d1 := (hK.out.cell (k * 6 + 1 + 0)).trans (set_cell oS (j := 0) (by decide))
   have d2 := (hK.out.cell (k * 6 + 1 + 1)).trans (set_cell oS (j := 1) (by decide))
   have d3 := (hK.out.cell (k * 6 + 1 + 2)).trans (set_cell oS (j := 2) (by decide))
   have d4 := (hK.out.cell (k * 6 + 1 + 3)).trans (set_cell oS (j := 3) (by decide))
   have d5 := (hK.out.cell (k * 6 + 5)).trans o5
   simp only [Nat.add_zero, Nat.add_assoc, Nat.reduceAdd] at d1 d2 d3 d4
   have dl := hK.out.lt
   have n1 : (k : Int) < (n : Int) := by omega
   have n0 : (0 : Int) ≤ (k : Int) := by omega
   have HCN := cells_new (wr.alloc (.cells #[.bool b.there, .int .u64 (wdI b.bytes 0), .int .u64 (wdI b.bytes 1), .int .u64 (wdI b.bytes 2), .int .u64 (wdI b.bytes 3), .bool b.fin] 123)) #[.int .u64 (wdI b.bytes 0), .int .u64 (wdI b.bytes 1), .int .u64 (wdI b.bytes 2), .int .u64 (wdI b.bytes 3)] 47
   rw [World.size_alloc] at HCN
   have HCN := Lib.hid HCN
   clear o0 oS o5 hb
   go_wp2_with (at_builtin; refine wpList_append_own _ rfl (.tmp 13) (.tmp 16) 38 rfl w2.heap.size 47 i0 (.agg #[.int .u64 0, .int .u64 0, .int .u64 0, .int .u64 0]) 4 32 Tryz.underlying38 hi hz0 hz1 hz2 rfl (by decide) _ _ _ rfl ((hO.out.alloc _).alloc _) ⟨wr.heap.size + 1, 0, none⟩ 1 1 [.int .u64 (wdI b.bytes 0), .int .u64 (wdI b.bytes 1), .int .u64 (wdI b.bytes 2), .int .u64 (wdI b.bytes 3)] rfl rfl HCN.out (by simp [Value.oneCell']) (by unfold maxLen; omega) (by omega) (by simp; omega) ?_; intro v5 w5 hown5 hgrow5 _)
   have hf5 := own_fin ((hO.out.alloc _).alloc _) (((Below.refl w2.heap.size wr).alloc hsz _).alloc (by simp; omega) _) hsz hgrow5
   have hO5 : Hid (w5.ownsRow w2.heap.size 47 4 v5 (k + 1) (cellsL cset ((B.take (k + 1)).map (·.bytes)))) := Lib.hid (by
    rw [HT.out, cellsL_snoc]; exact hown5)
   have hK5 := Lib.hid (hK.out.below hf5 hbl)
   have hB5 := Lib.hid (hB.out.trans (hf5.mono hw2))
   have hs5 := Nat.le_trans hsz hf5.size
   clear hf5 hown5 hgrow5 hO hK hB d0 d1 d2 d3 d4 d5
   go_roundw
   case rel => exact ⟨k + 1, by go_num, by omega, hO5, hK5, hB5, hs5⟩
   case measure => simp [intOf]; omega
  ·obtain rfl : k = n := by omega
   have hO2 := hO.out
   rw [List.take_of_length_le (by omega)] at hO2
   have hZ : Hid (∃ (Bo c : Nat) (cs : Array Value), u3 = .slice (some ⟨Bo, 0, none⟩) k c ∧ w.heap.size ≤ Bo ∧ Blk wr Bo 47 cs ∧ ∀ (j : Nat) (s : BS), (B.map (·.bytes))[j]? = some s → SetAt cs (j * 4) s) := Lib.hid (by
    rcases hO2.2 with ⟨_, h0⟩ | ⟨gB, cap, cur, h1, h2, h3, h4, h5, h6, h7⟩
    ·have := Hs1.out.1
     have := HN.out
     omega
    ·refine ⟨gB, cap, cur, h1, by omega, h3, fun j s hj i v hv => ?_⟩
     have hi4 : i < 4 := by
      have := (Array.getElem?_eq_some_iff.1 hv).1
      simpa [cset] using this
     have hjl : j < B.length := by
      have := (List.getElem?_eq_some_iff.1 hj).1
      simpa using this
     have h8 := cellsL_at (cs := cset) (k := 4) (fun _ => rfl) (B.map (·.bytes)) j s hj i hi4
     rw [← h7, List.getElem?_take, if_pos (by omega), hv, Array.getElem?_toList] at h8
     exact h8)
   have HF : Hid (FollowP g (B.map (·.bytes)) ∧ B.map (·.bytes) ≠ [] ∧ (B.map (·.bytes)).length = k) := Lib.hid ⟨⟨B, HP.out, rfl⟩, fun h => by
    have h := congrArg List.length h
    rw [List.length_map, List.length_nil] at h
    have := Hs1.out.1
    have := HN.out
    omega, by rw [List.length_map]; exact hBn⟩
   obtain ⟨Bo, c, cs, rfl, hz1', hz2', hz3'⟩ := hZ.out
   have HE := Lib.hid (And.intro hz1' (And.intro hz2' hz3'))
   clear hO hO2 hK hz1' hz2' hz3' hZ
   go_wp2
   go_ret
   exact ⟨_, Bo, c, cs, HF.out.1, HF.out.2.1, by rw [HF.out.2.2]; rfl, HE.out.1, HE.out.2.1, HE.out.2.2, hB.out⟩
end Go.Proofs.YtodnlcbnbkkanaaGreatDoor
end
section
namespace Go.Proofs.YtodnlcbnbkkanaaGreatDoor
open Go Go.RowKit

set_option maxRecDepth 100000 in
set_option maxHeartbeats 1000000 in
theorem Follow_any (g : GramM) (hf : FitG g) (w : World) (hg : GIn w g) : Calls Tryz.prog 23 #[gramV g] w (TellSets w g (FollowP g)) := by
 have hB1 : Below w.heap.size w (w.alloc (.cells (gramC g) 27)) := (Below.refl _ _).alloc (Nat.le_refl _) _
 have HC := Lib.hid (answerS_any g hf 54 (fun _ _ => by kernel_rfl) (FollowP g) _ (hg.below hB1) (fun h W hW => follow_any g (mayB_of h) (maySet_of h) hf.fit W hW))
 have HB := Lib.hid hB1
 clear hf hg hB1
 unfold gramV gramC at *
 go_enter Tryz.func23, Tryz.ntmps23
 go_wp2_with fail
 refine HC.out.mono ?_
 rintro e w3 ⟨hB3, ⟨hc, rfl⟩ | ⟨hc, F, B, c, cs, hR, hne, rfl, hBl, hk, hat⟩⟩
 ·have HB3 := Lib.hid (HB.out.trans (hB3.mono HB.out.size))
  have Hc := Lib.hid hc
  clear hB3 hc HC
  go_wp2
  go_ret2
  exact ⟨HB3.out, .inl ⟨Hc.out, rfl⟩⟩
 ·have HB3 := Lib.hid (HB.out.trans (hB3.mono HB.out.size))
  have Hc := Lib.hid hc
  have HR := Lib.hid (And.intro hR hne)
  have HBl : Hid (w.heap.size ≤ B) := Lib.hid (Nat.le_trans HB.out.size hBl)
  have HK := Lib.hid (And.intro hk hat)
  clear hB3 hc HC hR hne hBl hk hat
  go_wp2
  go_ret2
  exact ⟨HB3.out, .inr ⟨Hc.out, F, B, c, cs, HR.out.1, HR.out.2, rfl, HBl.out, HK.out.1, HK.out.2⟩⟩
end Go.Proofs.YtodnlcbnbkkanaaGreatDoor
end
section
namespace Go.Proofs.YtodnlcbnbkkanaaGreatDoor
open Go Go.RowKit

theorem info4e : (Tryz.prog.info? 4).map (fun i => (i.zero, i.size, i.bytes)) = some (some (.bool false), 1, 1) := by kernel_rfl
def mrkC (b : Bool) : Array Value := #[.bool b]
def EndsP (g : GramM) (E : List Bool) : Prop := ∃ B, BackP g B ∧ E = B.map (·.fin)
theorem EndsP.unique {g : GramM} {F F' : List Bool} (h : EndsP g F) (h' : EndsP g F') : F = F' := by
 obtain ⟨B, h1, rfl⟩ := h
 obtain ⟨B', h2, rfl⟩ := h'
 rw [h1.unique h2]
def BoolsPost (w : World) (R : List Bool → Prop) (e : Ending) (w' : World) : Prop := ∃ (F : List Bool) (B c : Nat) (cs : Array Value), R F ∧ F ≠ [] ∧ e = .returned (.slice (some ⟨B, 0, none⟩) F.length c) ∧ w.heap.size ≤ B ∧ Blk w' B 4 cs ∧ (∀ (k : Nat) (s : Bool), F[k]? = some s → cs[k]? = some (.bool s)) ∧ Below w.heap.size w w'

set_option maxRecDepth 100000 in
set_option maxHeartbeats 8000000 in
theorem ends_any (g : GramM) (hm : MayB g) (hs : MaySet g) (hf : Fit g) (w : World) (hg : GIn w g) : Calls Tryz.prog 55 #[gramV g] w (BoolsPost w (EndsP g)) := by
 have hB1 : Below w.heap.size w (w.alloc (.cells (gramC g) 27)) := (Below.refl _ _).alloc (Nat.le_refl _) _
 have HC := Lib.hid (backs_any g hm hs hf _ (hg.below hB1))
 have HB := Lib.hid hB1
 have Hs1 := Lib.hid (And.intro hm.sorts1 hm.sorts2)
 unfold BacksPost at HC
 obtain ⟨n, hn⟩ : ∃ n, n = g.sorts.length := ⟨_, rfl⟩
 have hn1 : n ≤ 1000 := by rw [hn]; exact hm.sorts2
 have HN := Lib.hid hn
 obtain ⟨i0, hi, hz0, hz1, hz2⟩ := info_parts info4e
 clear hm hs hf hg hB1
 unfold gramV gramC at *
 rw [← hn] at HC HB ⊢
 clear hn
 go_enter Tryz.func55, Tryz.ntmps55
 go_wp2_with fail
 refine HC.out.mono ?_
 rintro e w2 ⟨B, Bb, hP, rfl, hb1, hk, hB2⟩
 have HP := Lib.hid hP
 have hBn : B.length = n := by rw [hP.1, HN.out]
 have HK0 := Lib.hid hk
 have HB0 := Lib.hid (HB.out.trans (hB2.mono HB.out.size))
 have hbl := hk.lt
 have hw2 := HB0.out.size
 clear hP hb1 hk hB2 HC
 go_wp2
 go_loopw [3, 9] (fun v i wr => ∃ (k : Nat), i = .int .i64 k ∧ k ≤ n ∧ Hid (wr.ownsRow w2.heap.size 4 1 v k (cellsL mrkC ((B.take k).map (·.fin)))) ∧ Hid (Blk wr Bb 123 (backsC B)) ∧ Hid (Below w.heap.size w wr) ∧ w2.heap.size ≤ wr.heap.size)
  (fun _ i _ => n - (intOf i).toNat)
 case atStart => exact ⟨0, rfl, Nat.zero_le _, Lib.hid (World.ownsRow_nil _ _ _ _), HK0, HB0, Nat.le_refl _⟩
 case round =>
  clear HB0 HK0
  obtain ⟨k, rfl, hk, hO, hK, hB, hsz⟩ := hrel
  by_cases hlt : k < n
  ·obtain ⟨b, hb⟩ : ∃ b, B[k]? = some b := ⟨_, List.getElem?_eq_getElem (by omega)⟩
   have HT : Hid ((B.take (k + 1)).map (·.fin) = (B.take k).map (·.fin) ++ [b.fin]) := Lib.hid (by rw [take_snoc B k b hb, List.map_append]; rfl)
   obtain ⟨o0, oS, o5⟩ := (backsC_at hb).cells
   have d0 := (hK.out.cell (k * 6)).trans o0
   have d1 := (hK.out.cell (k * 6 + 1 + 0)).trans (set_cell oS (j := 0) (by decide))
   have d2 := (hK.out.cell (k * 6 + 1 + 1)).trans (set_cell oS (j := 1) (by decide))
   have d3 := (hK.out.cell (k * 6 + 1 + 2)).trans (set_cell oS (j := 2) (by decide))
   have d4 := (hK.out.cell (k * 6 + 1 + 3)).trans (set_cell oS (j := 3) (by decide))
   have d5 := (hK.out.cell (k * 6 + 5)).trans o5
   simp only [Nat.add_zero, Nat.add_assoc, Nat.reduceAdd] at d1 d2 d3 d4
   have dl := hK.out.lt
   have n1 : (k : Int) < (n : Int) := by omega
   have n0 : (0 : Int) ≤ (k : Int) := by omega
   have HCN := cells_new (wr.alloc (.cells #[.bool b.there, .int .u64 (wdI b.bytes 0), .int .u64 (wdI b.bytes 1), .int .u64 (wdI b.bytes 2), .int .u64 (wdI b.bytes 3), .bool b.fin] 123)) #[.bool b.fin] 4
   rw [World.size_alloc] at HCN
   have HCN := Lib.hid HCN
   clear o0 oS o5 hb
   go_wp2_with (at_builtin; refine wpList_append_own _ rfl (.tmp 13) (.tmp 16) 31 rfl w2.heap.size 4 i0 (.bool false) 1 1 Tryz.underlying31 hi hz0 hz1 hz2 rfl (by decide) _ _ _ rfl ((hO.out.alloc _).alloc _) ⟨wr.heap.size + 1, 0, none⟩ 1 1 [.bool b.fin] rfl rfl HCN.out (by simp [Value.oneCell']) (by unfold maxLen; omega) (by omega) (by simp; omega) ?_; intro v5 w5 hown5 hgrow5 _)
   have hf5 := own_fin ((hO.out.alloc _).alloc _) (((Below.refl w2.heap.size wr).alloc hsz _).alloc (by simp; omega) _) hsz hgrow5
   have hO5 : Hid (w5.ownsRow w2.heap.size 4 1 v5 (k + 1) (cellsL mrkC ((B.take (k + 1)).map (·.fin)))) := Lib.hid (by
    rw [HT.out, cellsL_snoc]; exact hown5)
   have hK5 := Lib.hid (hK.out.below hf5 hbl)
   have hB5 := Lib.hid (hB.out.trans (hf5.mono hw2))
   have hs5 := Nat.le_trans hsz hf5.size
   clear hf5 hown5 hgrow5 hO hK hB d0 d1 d2 d3 d4 d5
   go_roundw
   case rel => exact ⟨k + 1, by go_num, by omega, hO5, hK5, hB5, hs5⟩
   case measure => simp [intOf]; omega
  ·obtain rfl : k = n := by omega
   have hO2 := hO.out
   rw [List.take_of_length_le (by omega)] at hO2
   have hZ : Hid (∃ (Bo c : Nat) (cs : Array Value), u3 = .slice (some ⟨Bo, 0, none⟩) k c ∧ w.heap.size ≤ Bo ∧ Blk wr Bo 4 cs ∧ ∀ (j : Nat) (s : Bool), (B.map (·.fin))[j]? = some s → cs[j]? = some (.bool s)) := Lib.hid (by
    rcases hO2.2 with ⟨_, h0⟩ | ⟨gB, cap, cur, h1, h2, h3, h4, h5, h6, h7⟩
    ·have := Hs1.out.1
     have := HN.out
     omega
    ·refine ⟨gB, cap, cur, h1, by omega, h3, fun j s hj => ?_⟩
     have hjl : j < B.length := by
      have := (List.getElem?_eq_some_iff.1 hj).1
      simpa using this
     have h8 := cellsL_at (cs := mrkC) (k := 1) (fun _ => rfl) (B.map (·.fin)) j s hj 0 (by decide)
     rw [← h7, List.getElem?_take, if_pos (by omega), Array.getElem?_toList, Nat.mul_one, Nat.add_zero] at h8
     exact h8)
   have HF : Hid (EndsP g (B.map (·.fin)) ∧ B.map (·.fin) ≠ [] ∧ (B.map (·.fin)).length = k) := Lib.hid ⟨⟨B, HP.out, rfl⟩, fun h => by
    have h := congrArg List.length h
    rw [List.length_map, List.length_nil] at h
    have := Hs1.out.1
    have := HN.out
    omega, by rw [List.length_map]; exact hBn⟩
   obtain ⟨Bo, c, cs, rfl, hz1', hz2', hz3'⟩ := hZ.out
   have HE := Lib.hid (And.intro hz1' (And.intro hz2' hz3'))
   clear hO hO2 hK hz1' hz2' hz3' hZ
   go_wp2
   go_ret
   exact ⟨_, Bo, c, cs, HF.out.1, HF.out.2.1, by rw [HF.out.2.2]; rfl, HE.out.1, HE.out.2.1, HE.out.2.2, hB.out⟩
end Go.Proofs.YtodnlcbnbkkanaaGreatDoor
end
section
namespace Go.Proofs.YtodnlcbnbkkanaaGreatDoor
open Go Go.RowKit

def TellEnds (w : World) (g : GramM) (R : List Bool → Prop) (e : Ending) (w' : World) : Prop :=
 Below w.heap.size w w' ∧ ((checkB g = false ∧ e = .returned (.tuple #[.slice none 0 0, .int .i64 160])) ∨ (checkB g = true ∧ ∃ (F : List Bool) (B c : Nat) (cs : Array Value), R F ∧ F ≠ [] ∧ e = .returned (.tuple #[.slice (some ⟨B, 0, none⟩) F.length c, .int .i64 0]) ∧ w.heap.size ≤ B ∧ Blk w' B 4 cs ∧ (∀ (k : Nat) (s : Bool), F[k]? = some s → cs[k]? = some (.bool s))))

set_option maxRecDepth 100000 in
set_option maxHeartbeats 4000000 in
theorem answerE_any (g : GramM) (hf : FitG g) (K : Nat) (eg : ∀ args w, (callFunc K args).run Tryz.prog w = .ok (.enter K args) w) (R : List Bool → Prop) (w : World) (hg : GIn w g) (H : checkB g = true → ∀ W, GIn W g → Calls Tryz.prog K #[gramV g] W (BoolsPost W R)) :
  Calls Tryz.prog 45 #[gramV g, .func (.func K) #[] #[]] w (TellEnds w g R) := by
 have hB1 : Below w.heap.size w (w.alloc (.cells (gramC g) 27)) := (Below.refl _ _).alloc (Nat.le_refl _) _
 have HC := Lib.hid (check_any g _ (hg.below hB1) hf)
 have HB := Lib.hid hB1
 have HK := Lib.hid (Blk.new w 27 (gramC g))
 have HG := Lib.hid hg
 obtain ⟨b, hb⟩ : ∃ b, b = checkB g := ⟨_, rfl⟩
 have HBb := Lib.hid hb
 rw [← hb] at HC
 have HH := Lib.hid (fun h W hW => H (hb.symm.trans h) W hW)
 clear hf hg hB1 hb H
 unfold gramV gramC errI at *
 go_enter Tryz.func45, Tryz.ntmps45
 go_wp2_with fail
 refine HC.out.mono ?_
 rintro e w3 ⟨rfl, hB3⟩
 have HB3 := Lib.hid (HB.out.trans (hB3.mono HB.out.size))
 have HK3 := Lib.hid (HK.out.below hB3 HK.out.lt)
 clear hB3 HC
 cases b with
 | false =>
  rw [if_neg (by decide)]
  go_wp2
  go_ret2
  exact ⟨HB3.out, .inl ⟨HBb.out.symm, rfl⟩⟩
 | true =>
  rw [if_pos rfl]
  have HC2 := Lib.hid (HH.out rfl w3 (HG.out.below HB3.out))
  obtain ⟨c0, c1, c2, c3, c4⟩ := (show Blk w3 w.heap.size 27 (gramC g) from HK3.out).gram
  have l3 := HK3.out.lt
  clear HH
  go_wp2_with fail
  refine HC2.out.mono ?_
  rintro e w4 ⟨F, B, c, cs, hR, hne, rfl, hBl, hk, hat, hB4⟩
  have HR := Lib.hid (And.intro hR hne)
  have HBl : Hid (w.heap.size ≤ B) := Lib.hid (Nat.le_trans HB3.out.size hBl)
  have HKk := Lib.hid (And.intro hk hat)
  have HB4 := Lib.hid (HB3.out.trans (hB4.mono HB3.out.size))
  clear hR hne hBl hk hat hB4 HC2
  go_wp2
  go_ret2
  exact ⟨HB4.out, .inr ⟨HBb.out.symm, F, B, c, cs, HR.out.1, HR.out.2, rfl, HBl.out, HKk.out.1, HKk.out.2⟩⟩

set_option maxRecDepth 100000 in
set_option maxHeartbeats 1000000 in
theorem Ends_any (g : GramM) (hf : FitG g) (w : World) (hg : GIn w g) : Calls Tryz.prog 24 #[gramV g] w (TellEnds w g (EndsP g)) := by
 have hB1 : Below w.heap.size w (w.alloc (.cells (gramC g) 27)) := (Below.refl _ _).alloc (Nat.le_refl _) _
 have HC := Lib.hid (answerE_any g hf 55 (fun _ _ => by kernel_rfl) (EndsP g) _ (hg.below hB1) (fun h W hW => ends_any g (mayB_of h) (maySet_of h) hf.fit W hW))
 have HB := Lib.hid hB1
 clear hf hg hB1
 unfold gramV gramC at *
 go_enter Tryz.func24, Tryz.ntmps24
 go_wp2_with fail
 refine HC.out.mono ?_
 rintro e w3 ⟨hB3, ⟨hc, rfl⟩ | ⟨hc, F, B, c, cs, hR, hne, rfl, hBl, hk, hat⟩⟩
 ·have HB3 := Lib.hid (HB.out.trans (hB3.mono HB.out.size))
  have Hc := Lib.hid hc
  clear hB3 hc HC
  go_wp2
  go_ret2
  exact ⟨HB3.out, .inl ⟨Hc.out, rfl⟩⟩
 ·have HB3 := Lib.hid (HB.out.trans (hB3.mono HB.out.size))
  have Hc := Lib.hid hc
  have HR := Lib.hid (And.intro hR hne)
  have HBl : Hid (w.heap.size ≤ B) := Lib.hid (Nat.le_trans HB.out.size hBl)
  have HK := Lib.hid (And.intro hk hat)
  clear hB3 hc HC hR hne hBl hk hat
  go_wp2
  go_ret2
  exact ⟨HB3.out, .inr ⟨Hc.out, F, B, c, cs, HR.out.1, HR.out.2, rfl, HBl.out, HK.out.1, HK.out.2⟩⟩
end Go.Proofs.YtodnlcbnbkkanaaGreatDoor
end
section
namespace Go.Proofs.YtodnlcbnbkkanaaGreatDoor
open Go Go.RowKit

def zcs : Array Value := #[.int .u64 0, .int .u64 0, .int .u64 0, .int .u64 0]
theorem cset_zero : cset 0#256 = zcs := by
 unfold cset zcs
 rw [wdI_zero, wdI_zero, wdI_zero, wdI_zero]

theorem two_pow_bv (j : Nat) (hj : j < 64) : IntKind.u64.wrap (2 ^ j) = ((BitVec.twoPow 64 j).toNat : Int) := by
 rw [BitVec.toNat_twoPow]
 have h : 2 ^ j < 2 ^ 64 := Nat.pow_lt_pow_right (by omega) hj
 rw [Nat.mod_eq_of_lt h, IntKind.wrap_u64]
 have e : (2 : Int) ^ j = ((2 ^ j : Nat) : Int) := by simp
 rw [e]
 generalize (2 ^ j : Nat) = X at h
 omega

theorem wdI_with_other (s : BS) (b i : Nat) (hb : b < 256) (h : b / 64 ≠ i) : wdI (withB s b) i = wdI s i := by
 unfold wdI
 rw [wd_with s b i hb, if_neg (fun e => h e.symm)]

theorem Blk.set4 {W : World} {B t : Nat} {a b c d : Value} (h : Blk W B t #[a, b, c, d]) (a' b' c' d' : Value) :
  Blk ((((W.setCell ⟨B, 0, none⟩ a').setCell ⟨B, 1, none⟩ b').setCell ⟨B, 2, none⟩ c').setCell ⟨B, 3, none⟩ d') B t #[a', b', c', d'] := by
 simpa using (((h.set 0 a').set 1 b').set 2 c').set 3 d'
theorem below_set4 {n B : Nat} {w W : World} (h : Below n w W) (hn : n ≤ B) (a' b' c' d' : Value) :
  Below n w ((((W.setCell ⟨B, 0, none⟩ a').setCell ⟨B, 1, none⟩ b').setCell ⟨B, 2, none⟩ c').setCell ⟨B, 3, none⟩ d') :=
 (((h.setCell (p := ⟨B, 0, none⟩) hn _).setCell (p := ⟨B, 1, none⟩) hn _).setCell (p := ⟨B, 2, none⟩) hn _).setCell (p := ⟨B, 3, none⟩) hn _

theorem and_twoPow (x : BitVec 64) (j : Nat) (h : x.getLsbD j = false) : x &&& BitVec.twoPow 64 j = 0#64 := by
 apply BitVec.eq_of_getLsbD_eq; intro i hi
 rw [BitVec.getLsbD_and, BitVec.getLsbD_twoPow]
 by_cases e : j = i
 ·subst e; simp [h]
 ·simp [e]

theorem wdI_add (s : BS) (b i : Nat) (hb : b < 256) (h : b / 64 = i) (hs : s.getLsbD b = false) : IntKind.u64.wrap (wdI s i + IntKind.u64.wrap (2 ^ (b % 64))) = wdI (withB s b) i := by
 rw [two_pow_bv _ (by omega)]; unfold wdI
 rw [wd_with s b i hb, if_pos h.symm]
 have hz : wd s i &&& BitVec.twoPow 64 (b % 64) = 0#64 := and_twoPow _ _ (by
  rw [wd_bit]; subst h
  rw [show 64 * (b / 64) + b % 64 = b by omega, hs]; simp)
 rw [← BitVec.add_eq_or_of_and_eq_zero _ _ hz, BitVec.toNat_add, IntKind.wrap_u64]
 omega

theorem withB_has (s : BS) (b : Nat) (hb : b < 256) (h : s.getLsbD b = true) : withB s b = s := by
 apply BitVec.eq_of_getLsbD_eq; intro j hj
 rw [withB_bit _ _ _ hb]
 by_cases e : b = j
 ·subst e; simp [h]
 ·simp [e]

set_option maxHeartbeats 400000 in
theorem rhas_any (s : BS) (b : Nat) (hb : b < 256) (w : World) : Calls Tryz.prog 80 #[vset s, .int .i64 b] w fun e w' => e = .returned (.bool (s.getLsbD b)) ∧ Below w.heap.size w w' := by
 have hr := bit2_I s b hb
 rw [← hr]; clear hr
 unfold vset
 have hc := cells_at s (b / 64) (by omega)
 go_enter Tryz.func80, Tryz.ntmps80
 go_wp2
 go_ret
 exact ⟨rfl, (Below.refl _ _).alloc (Nat.le_refl _) _⟩

set_option maxRecDepth 100000 in
set_option maxHeartbeats 2000000 in
theorem rwith_old (s : BS) (b : Nat) (hb : b < 256) (hs : s.getLsbD b = true) (w : World) : Calls Tryz.prog 81 #[vset s, .int .i64 b] w fun e w' => e = .returned (vset s) ∧ Below w.heap.size w w' := by
 have HH := Lib.hid (fun w' => rhas_any s b hb w')
 rw [hs] at HH
 clear hs
 unfold vset at HH ⊢
 go_enter Tryz.func81, Tryz.ntmps81
 go_wp2_with fail
 refine (HH.out _).mono ?_
 rintro e w1 ⟨rfl, hB1⟩
 have hA := Lib.hid (((Blk.new w 47 (cset s)).alloc (.cells #[.int .u64 0, .int .u64 0, .int .u64 0, .int .u64 0] 47)).below hB1 (by simp; omega))
 have hZ0 := (Blk.new (w.alloc (.cells (cset s) 47)) 47 zcs).below hB1 (by simp)
 rw [World.size_alloc] at hZ0
 have hZ := Lib.hid hZ0
 have HB := Lib.hid ((((Below.refl _ w).alloc (Nat.le_refl _) (.cells (cset s) 47)).alloc (by simp) (.cells zcs 47)).trans (hB1.mono (by simp; omega)))
 clear hZ0 hB1 HH
 have c0 : w1.cell? ⟨w.heap.size, 0, none⟩ = some (.int .u64 (wdI s 0)) := hA.out.cell 0
 have c1 : w1.cell? ⟨w.heap.size, 1, none⟩ = some (.int .u64 (wdI s 1)) := hA.out.cell 1
 have c2 : w1.cell? ⟨w.heap.size, 2, none⟩ = some (.int .u64 (wdI s 2)) := hA.out.cell 2
 have c3 : w1.cell? ⟨w.heap.size, 3, none⟩ = some (.int .u64 (wdI s 3)) := hA.out.cell 3
 have z0 : w1.cell? ⟨w.heap.size + 1, 0, none⟩ = some (.int .u64 0) := hZ.out.cell 0
 have z1 : w1.cell? ⟨w.heap.size + 1, 1, none⟩ = some (.int .u64 0) := hZ.out.cell 1
 have z2 : w1.cell? ⟨w.heap.size + 1, 2, none⟩ = some (.int .u64 0) := hZ.out.cell 2
 have z3 : w1.cell? ⟨w.heap.size + 1, 3, none⟩ = some (.int .u64 0) := hZ.out.cell 3
 have fz : ∀ i, w1.frozen? ⟨w.heap.size + 1, i, none⟩ = false := hZ.out.frozen
 go_wp2
 have y := Blk.set4 hZ.out (.int .u64 (wdI s 0)) (.int .u64 (wdI s 1)) (.int .u64 (wdI s 2)) (.int .u64 (wdI s 3))
 have y0 := y.cell 0
 have y1 := y.cell 1
 have y2 := y.cell 2
 have y3 := y.cell 3
 refine bodyPost_ret (v := .agg #[.int .u64 (wdI s 0), .int .u64 (wdI s 1), .int .u64 (wdI s 2), .int .u64 (wdI s 3)]) (by simp [results, Tryz.results81, go_sem, y0, y1, y2, y3]) rfl ⟨rfl, ?_⟩
 exact below_set4 HB.out (by omega) _ _ _ _

theorem cset_put (s u : BS) (i : Nat) (hi : i < 4) (h : ∀ k, k < 4 → k ≠ i → wdI u k = wdI s k) : (cset s).setIfInBounds i (.int .u64 (wdI u i)) = cset u := by
 have : i = 0 ∨ i = 1 ∨ i = 2 ∨ i = 3 := by omega
 rcases this with rfl | rfl | rfl | rfl
 ·have h1 := h 1 (by omega) (by omega); have h2 := h 2 (by omega) (by omega); have h3 := h 3 (by omega) (by omega)
  unfold cset; rw [h1, h2, h3]; rfl
 ·have h1 := h 0 (by omega) (by omega); have h2 := h 2 (by omega) (by omega); have h3 := h 3 (by omega) (by omega)
  unfold cset; rw [h1, h2, h3]; rfl
 ·have h1 := h 0 (by omega) (by omega); have h2 := h 1 (by omega) (by omega); have h3 := h 3 (by omega) (by omega)
  unfold cset; rw [h1, h2, h3]; rfl
 ·have h1 := h 0 (by omega) (by omega); have h2 := h 1 (by omega) (by omega); have h3 := h 2 (by omega) (by omega)
  unfold cset; rw [h1, h2, h3]; rfl

set_option maxRecDepth 100000 in
set_option maxHeartbeats 2000000 in
theorem rwith_new (s : BS) (b : Nat) (hb : b < 256) (hs : s.getLsbD b = false) (w : World) : Calls Tryz.prog 81 #[vset s, .int .i64 b] w fun e w' => e = .returned (vset (withB s b)) ∧ Below w.heap.size w w' := by
 have HH := Lib.hid (fun w' => rhas_any s b hb w')
 have HI : Hid (IntKind.u64.wrap (wdI s (b / 64) + IntKind.u64.wrap (2 ^ (b % 64))) = wdI (withB s b) (b / 64)) := wdI_add s b _ hb rfl hs
 have HO : Hid (∀ i, i < 4 → i ≠ b / 64 → wdI (withB s b) i = wdI s i) := fun i _ h => wdI_with_other s b i hb (fun e => h e.symm)
 rw [hs] at HH
 clear hs
 obtain ⟨u, hu⟩ : ∃ u, u = withB s b := ⟨_, rfl⟩
 rw [← hu] at HI HO ⊢
 clear hu
 unfold vset at HH ⊢
 go_enter Tryz.func81, Tryz.ntmps81
 go_wp2_with fail
 refine (HH.out _).mono ?_
 rintro e w1 ⟨rfl, hB1⟩
 have hA := Lib.hid (((Blk.new w 47 (cset s)).alloc (.cells #[.int .u64 0, .int .u64 0, .int .u64 0, .int .u64 0] 47)).below hB1 (by simp; omega))
 have hZ0 := (Blk.new (w.alloc (.cells (cset s) 47)) 47 zcs).below hB1 (by simp)
 rw [World.size_alloc] at hZ0
 have hZ := Lib.hid hZ0
 have HB := Lib.hid ((((Below.refl _ w).alloc (Nat.le_refl _) (.cells (cset s) 47)).alloc (by simp) (.cells zcs 47)).trans (hB1.mono (by simp; omega)))
 clear hZ0 hB1 HH
 have hcat := cells_at s (b / 64) (by omega)
 have hcell : w1.cell? ⟨w.heap.size, b / 64, none⟩ = some (.int .u64 (wdI s (b / 64))) := by
  rw [hA.out.cell]; unfold cset; simpa using hcat
 have hfr := hA.out.frozen (b / 64)
 have hk := HI.out
 clear hcat
 go_wp2
 go_region
 have hA2 : Blk (w1.setCell ⟨w.heap.size, b / 64, none⟩ (.int .u64 (wdI u (b / 64)))).drew w.heap.size 47 (cset u) := by
  have h := hA.out.set (b / 64) (.int .u64 (wdI u (b / 64)))
  rw [cset_put s u (b / 64) (by omega) HO.out] at h
  exact h
 have hZ2 : Blk (w1.setCell ⟨w.heap.size, b / 64, none⟩ (.int .u64 (wdI u (b / 64)))).drew (w.heap.size + 1) 47 zcs := hZ.out.other (a := ⟨w.heap.size, b / 64, none⟩) (by simp) _
 have hB2 : Below w.heap.size w (w1.setCell ⟨w.heap.size, b / 64, none⟩ (.int .u64 (wdI u (b / 64)))).drew := (HB.out.setCell (p := ⟨w.heap.size, b / 64, none⟩) (Nat.le_refl _) _).drew
 obtain ⟨w2, hw2⟩ : ∃ w2, w2 = (w1.setCell ⟨w.heap.size, b / 64, none⟩ (.int .u64 (wdI u (b / 64)))).drew := ⟨_, rfl⟩
 rw [← hw2] at hA2 hZ2 hB2 ⊢
 have HA2 := Lib.hid hA2
 have HZ2 := Lib.hid hZ2
 have HB2 := Lib.hid hB2
 clear hw2 hcell hfr hk hA hZ HB HI HO hA2 hZ2 hB2
 have c0 : w2.cell? ⟨w.heap.size, 0, none⟩ = some (.int .u64 (wdI u 0)) := HA2.out.cell 0
 have c1 : w2.cell? ⟨w.heap.size, 1, none⟩ = some (.int .u64 (wdI u 1)) := HA2.out.cell 1
 have c2 : w2.cell? ⟨w.heap.size, 2, none⟩ = some (.int .u64 (wdI u 2)) := HA2.out.cell 2
 have c3 : w2.cell? ⟨w.heap.size, 3, none⟩ = some (.int .u64 (wdI u 3)) := HA2.out.cell 3
 have z0 : w2.cell? ⟨w.heap.size + 1, 0, none⟩ = some (.int .u64 0) := HZ2.out.cell 0
 have z1 : w2.cell? ⟨w.heap.size + 1, 1, none⟩ = some (.int .u64 0) := HZ2.out.cell 1
 have z2 : w2.cell? ⟨w.heap.size + 1, 2, none⟩ = some (.int .u64 0) := HZ2.out.cell 2
 have z3 : w2.cell? ⟨w.heap.size + 1, 3, none⟩ = some (.int .u64 0) := HZ2.out.cell 3
 have fz : ∀ i, w2.frozen? ⟨w.heap.size + 1, i, none⟩ = false := HZ2.out.frozen
 go_wp2
 have y := Blk.set4 HZ2.out (.int .u64 (wdI u 0)) (.int .u64 (wdI u 1)) (.int .u64 (wdI u 2)) (.int .u64 (wdI u 3))
 have y0 := y.cell 0
 have y1 := y.cell 1
 have y2 := y.cell 2
 have y3 := y.cell 3
 refine bodyPost_ret (v := .agg #[.int .u64 (wdI u 0), .int .u64 (wdI u 1), .int .u64 (wdI u 2), .int .u64 (wdI u 3)]) (by simp [results, Tryz.results81, go_sem, y0, y1, y2, y3]) rfl ⟨rfl, ?_⟩
 exact below_set4 HB2.out (by omega) _ _ _ _

theorem rwith_any (s : BS) (b : Nat) (hb : b < 256) (w : World) : Calls Tryz.prog 81 #[vset s, .int .i64 b] w fun e w' => e = .returned (vset (withB s b)) ∧ Below w.heap.size w w' := by
 cases h : s.getLsbD b with
 | true => rw [withB_has s b hb h]; exact rwith_old s b hb h w
 | false => exact rwith_new s b hb h w

def lowB (f : Nat → Bool) : Nat → BS
 | 0 => 0#256
 | k + 1 => if f k then withB (lowB f k) k else lowB f k

theorem lowB_bit (f : Nat → Bool) (k j : Nat) (hk : k ≤ 256) : (lowB f k).getLsbD j = (decide (j < k) && f j) := by
 induction k with
 | zero => simp [lowB]
 | succ k ih =>
  have ih := ih (by omega)
  unfold lowB
  by_cases e : j = k
  ·subst e
   cases hf : f j with
   | true => simp only [if_true]; rw [withB_bit _ _ _ (by omega)]; simp
   | false => simp only [Bool.false_eq_true, if_false]; rw [ih]; simp
  ·have h1 : (j < k + 1) ↔ (j < k) := by omega
   cases hf : f k with
   | true => simp only [if_true]; rw [withB_bit _ _ _ (by omega), ih]; simp [h1, show ¬ k = j from fun h => e h.symm]
   | false => simp only [Bool.false_eq_true, if_false]; rw [ih]; simp [h1]

theorem lowB_eq (f : Nat → Bool) (s : BS) (h : ∀ j, j < 256 → f j = s.getLsbD j) : lowB f 256 = s := by
 apply BitVec.eq_of_getLsbD_eq; intro j hj
 rw [lowB_bit _ _ _ (Nat.le_refl _), h j hj]; simp [hj]

def KindF (kd : Int) (f : Bool → Bool → Bool) : Prop :=
 (kd = 0 ∧ ∀ x y, f x y = (x && y)) ∨ (kd = 1 ∧ ∀ x y, f x y = (x || y)) ∨ (kd = 2 ∧ ∀ x y, f x y = (x && !y))

set_option maxRecDepth 100000 in
set_option maxHeartbeats 16000000 in
theorem rboth_low (a b : BS) (kd : Int) (f : Bool → Bool → Bool) (hf : KindF kd f) (w : World) :
  Calls Tryz.prog 57 #[vset a, vset b, .int .i64 kd] w fun e w' => e = .returned (vset (lowB (fun j => f (a.getLsbD j) (b.getLsbD j)) 256)) ∧ Below w.heap.size w w' := by
 have HK := Lib.hid hf
 clear hf
 have HL : Hid (∀ k x y, a.getLsbD k = x → b.getLsbD k = y → lowB (fun j => f (a.getLsbD j) (b.getLsbD j)) (k + 1) = if f x y = true then withB (lowB (fun j => f (a.getLsbD j) (b.getLsbD j)) k) k else lowB (fun j => f (a.getLsbD j) (b.getLsbD j)) k) := fun k x y hx hy => by subst hx; subst hy; rfl
 have HZ0 : Hid (lowB (fun j => f (a.getLsbD j) (b.getLsbD j)) 0 = 0#256) := Lib.hid rfl
 generalize lowB (fun j => f (a.getLsbD j) (b.getLsbD j)) = L at HL HZ0 ⊢
 unfold vset
 go_enter Tryz.func57, Tryz.ntmps57
 go_wp2
 go_loopw [8] (fun i wr => ∃ (k : Nat), i = .int .i64 k ∧ k ≤ 256 ∧ Hid (Blk wr w.heap.size 47 (cset a)) ∧ Hid (Blk wr (w.heap.size + 1) 47 (cset b)) ∧ Hid (Blk wr (w.heap.size + 1 + 1) 47 zcs) ∧ Hid (Blk wr (w.heap.size + 1 + 1 + 1) 47 (cset (L k))) ∧ Hid (Below w.heap.size w wr))
  (fun i _ => 256 - (intOf i).toNat)
 case atStart =>
  refine ⟨0, rfl, Nat.zero_le _, ?_, ?_, ?_, ?_, ?_⟩
  ·exact (((Blk.new w 47 _).alloc _).alloc _).alloc _
  ·have h := ((Blk.new (w.alloc (.cells (cset a) 47)) 47 (cset b)).alloc (.cells zcs 47)).alloc (.cells zcs 47)
   rw [World.size_alloc] at h
   exact h
  ·have h := (Blk.new ((w.alloc (.cells (cset a) 47)).alloc (.cells (cset b) 47)) 47 zcs).alloc (.cells zcs 47)
   rw [World.size_alloc, World.size_alloc] at h
   exact h
  ·have h := Blk.new (((w.alloc (.cells (cset a) 47)).alloc (.cells (cset b) 47)).alloc (.cells zcs 47)) 47 zcs
   rw [World.size_alloc, World.size_alloc, World.size_alloc] at h
   rw [HZ0.out, cset_zero]
   exact h
  ·exact ((((Below.refl _ w).alloc (Nat.le_refl _) _).alloc (by simp) _).alloc (by simp; omega) _).alloc (by simp; omega) _
 case round =>
  obtain ⟨k, rfl, hk, hA, hA2, hZ, hU, hB⟩ := hrel
  by_cases hlt : k < 256
  ·obtain ⟨x, hx⟩ : ∃ x, a.getLsbD k = x := ⟨_, rfl⟩
   obtain ⟨y, hy⟩ : ∃ y, b.getLsbD k = y := ⟨_, rfl⟩
   have HN := Lib.hid (HL.out k x y hx hy)
   have HHa0 := rhas_any a k hlt
   have HHb0 := rhas_any b k hlt
   have HW0 := rwith_any (L k) k hlt
   rw [hx] at HHa0
   rw [hy] at HHb0
   clear hx hy
   obtain ⟨u, hu⟩ : ∃ u, u = L k := ⟨_, rfl⟩
   rw [← hu] at HN HW0 hU
   clear hu
   obtain ⟨u2, hu2⟩ : ∃ u2, u2 = withB u k := ⟨_, rfl⟩
   rw [← hu2] at HW0 HN
   clear hu2
   unfold vset at HHa0 HHb0 HW0
   have HHa := fun w' => Lib.hid (HHa0 w')
   have HHb := fun w' => Lib.hid (HHb0 w')
   have HW := fun w' => Lib.hid (HW0 w')
   clear HHa0 HHb0 HW0
   have a0 : wr.cell? ⟨w.heap.size, 0, none⟩ = some (.int .u64 (wdI a 0)) := hA.out.cell 0
   have a1 : wr.cell? ⟨w.heap.size, 1, none⟩ = some (.int .u64 (wdI a 1)) := hA.out.cell 1
   have a2 : wr.cell? ⟨w.heap.size, 2, none⟩ = some (.int .u64 (wdI a 2)) := hA.out.cell 2
   have a3 : wr.cell? ⟨w.heap.size, 3, none⟩ = some (.int .u64 (wdI a 3)) := hA.out.cell 3
   have b0 : wr.cell? ⟨w.heap.size + 1, 0, none⟩ = some (.int .u64 (wdI b 0)) := hA2.out.cell 0
   have b1 : wr.cell? ⟨w.heap.size + 1, 1, none⟩ = some (.int .u64 (wdI b 1)) := hA2.out.cell 1
   have b2 : wr.cell? ⟨w.heap.size + 1, 2, none⟩ = some (.int .u64 (wdI b 2)) := hA2.out.cell 2
   have b3 : wr.cell? ⟨w.heap.size + 1, 3, none⟩ = some (.int .u64 (wdI b 3)) := hA2.out.cell 3
   have hlt2 : w.heap.size + 1 + 1 + 1 < wr.heap.size := hU.out.lt
   go_upto_region 5 with fail
   go_cut [9, 10] (fun s9 s10 wx => s9 = .bool x ∧ s10 = .bool y ∧ Hid (Below wr.heap.size wr wx))
   case first =>
    have HKeep : Hid (∀ W W', Below wr.heap.size wr W → Below W.heap.size W W' → Below wr.heap.size wr W' ∧ (W'.cell? ⟨w.heap.size, 0, none⟩ = some (.int .u64 (wdI a 0)) ∧ W'.cell? ⟨w.heap.size, 1, none⟩ = some (.int .u64 (wdI a 1)) ∧ W'.cell? ⟨w.heap.size, 2, none⟩ = some (.int .u64 (wdI a 2)) ∧ W'.cell? ⟨w.heap.size, 3, none⟩ = some (.int .u64 (wdI a 3))) ∧ (W'.cell? ⟨w.heap.size + 1, 0, none⟩ = some (.int .u64 (wdI b 0)) ∧ W'.cell? ⟨w.heap.size + 1, 1, none⟩ = some (.int .u64 (wdI b 1)) ∧ W'.cell? ⟨w.heap.size + 1, 2, none⟩ = some (.int .u64 (wdI b 2)) ∧ W'.cell? ⟨w.heap.size + 1, 3, none⟩ = some (.int .u64 (wdI b 3)))) := by
     refine Lib.hid fun W W' h1 h2 => ?_
     have h3 := h1.trans (h2.mono h1.size)
     have hA' := hA.out.below h3 hA.out.lt
     have hB' := hA2.out.below h3 hA2.out.lt
     exact ⟨h3, ⟨hA'.cell 0, hA'.cell 1, hA'.cell 2, hA'.cell 3⟩, hB'.cell 0, hB'.cell 1, hB'.cell 2, hB'.cell 3⟩
    go_wp2_with fail
    go_region_held3 (fun W => (W.cell? ⟨w.heap.size, 0, none⟩ = some (.int .u64 (wdI a 0)) ∧ W.cell? ⟨w.heap.size, 1, none⟩ = some (.int .u64 (wdI a 1)) ∧ W.cell? ⟨w.heap.size, 2, none⟩ = some (.int .u64 (wdI a 2)) ∧ W.cell? ⟨w.heap.size, 3, none⟩ = some (.int .u64 (wdI a 3))) ∧ (W.cell? ⟨w.heap.size + 1, 0, none⟩ = some (.int .u64 (wdI b 0)) ∧ W.cell? ⟨w.heap.size + 1, 1, none⟩ = some (.int .u64 (wdI b 1)) ∧ W.cell? ⟨w.heap.size + 1, 2, none⟩ = some (.int .u64 (wdI b 2)) ∧ W.cell? ⟨w.heap.size + 1, 3, none⟩ = some (.int .u64 (wdI b 3)))) (go_keep)
     (first
      | (go_at_call 80; (with_reducible refine (HHa _).out.mono ?_); rintro e w' ⟨rfl, hB1⟩; obtain ⟨hBx, ⟨e0, e1, e2, e3⟩, e4, e5, e6, e7⟩ := HKeep.out _ _ (by first | assumption | exact (Below.refl _ wr).drew) hB1; clear hB1)
      | (go_at_call 80; (with_reducible refine (HHb _).out.mono ?_); rintro e w' ⟨rfl, hB1⟩; obtain ⟨hBx, ⟨e0, e1, e2, e3⟩, e4, e5, e6, e7⟩ := HKeep.out _ _ (by first | assumption | exact (Below.refl _ wr).drew) hB1; clear hB1))
    all_goals
     have HBX := Lib.hid hBx
     clear e0 e1 e2 e3 e4 e5 e6 e7 hBx
     go_wp2_with fail
     go_meet
     exact ⟨rfl, rfl, HBX⟩
   case rest =>
    obtain ⟨rfl, rfl, hBc⟩ := hcut
    have hA1 := Lib.hid (hA.out.below hBc.out hA.out.lt)
    have hA21 := Lib.hid (hA2.out.below hBc.out hA2.out.lt)
    have hZ1 := Lib.hid (hZ.out.below hBc.out hZ.out.lt)
    have hU1 := Lib.hid (hU.out.below hBc.out hU.out.lt)
    have hB1 := Lib.hid (hB.out.trans (hBc.out.mono hB.out.size))
    clear hA hA2 hZ hU hB hBc a0 a1 a2 a3 b0 b1 b2 b3 hlt2 HHa HHb
    have c0 : wc.cell? ⟨w.heap.size + 1 + 1 + 1, 0, none⟩ = some (.int .u64 (wdI u 0)) := hU1.out.cell 0
    have c1 : wc.cell? ⟨w.heap.size + 1 + 1 + 1, 1, none⟩ = some (.int .u64 (wdI u 1)) := hU1.out.cell 1
    have c2 : wc.cell? ⟨w.heap.size + 1 + 1 + 1, 2, none⟩ = some (.int .u64 (wdI u 2)) := hU1.out.cell 2
    have c3 : wc.cell? ⟨w.heap.size + 1 + 1 + 1, 3, none⟩ = some (.int .u64 (wdI u 3)) := hU1.out.cell 3
    have hlt3 : w.heap.size + 1 + 1 + 1 < wc.heap.size := hU1.out.lt
    go_upto_region 6 with fail
    go_cut [50] (fun s50 wx => s50 = .bool (f x y) ∧ wx = wc)
    case first =>
     rcases HK.out with ⟨rfl, hf⟩ | ⟨rfl, hf⟩ | ⟨rfl, hf⟩
     ·have HF := Lib.hid hf
      clear hf HK
      cases x <;> cases y
      all_goals
       go_wp2_with fail
       go_meet
       exact ⟨by rw [HF.out]; rfl, rfl⟩
     ·have HF := Lib.hid hf
      clear hf HK
      cases x <;> cases y
      all_goals
       go_wp2_with fail
       go_meet
       exact ⟨by rw [HF.out]; rfl, rfl⟩
     ·have HF := Lib.hid hf
      clear hf HK
      cases x <;> cases y
      all_goals
       go_wp2_with fail
       go_meet
       exact ⟨by rw [HF.out]; rfl, rfl⟩
    case rest =>
     obtain ⟨rfl, rfl⟩ := hcut
     cases hv : f x y with
     | false =>
      rw [hv] at HN
      have HN2 : Hid (L (k + 1) = u) := Lib.hid HN.out
      clear hv HN HW
      go_wp2
      go_roundw
      case rel =>
       exact ⟨k + 1, by go_num, by omega, hA1, hA21, hZ1, by rw [HN2.out]; exact hU1, hB1⟩
      case measure => simp [intOf]; omega
     | true =>
      rw [hv] at HN
      have HN2 : Hid (L (k + 1) = u2) := Lib.hid HN.out
      clear hv HN
      go_wp2_with fail
      refine (HW _).out.mono ?_
      rintro e w2 ⟨rfl, hB2⟩
      have hA2 := Lib.hid (hA1.out.below hB2 (by omega))
      have hA3 := Lib.hid (hA21.out.below hB2 (by omega))
      have hZ2 := Lib.hid (hZ1.out.below hB2 (by omega))
      have hU2 := Lib.hid (hU1.out.below hB2 (by omega))
      have hBC := Lib.hid (hB1.out.trans (hB2.mono hB1.out.size))
      clear hA1 hA21 hZ1 hU1 hB1 hB2 c0 c1 c2 c3 HW
      have c0 : w2.cell? ⟨w.heap.size + 1 + 1 + 1, 0, none⟩ = some (.int .u64 (wdI u 0)) := hU2.out.cell 0
      have c1 : w2.cell? ⟨w.heap.size + 1 + 1 + 1, 1, none⟩ = some (.int .u64 (wdI u 1)) := hU2.out.cell 1
      have c2 : w2.cell? ⟨w.heap.size + 1 + 1 + 1, 2, none⟩ = some (.int .u64 (wdI u 2)) := hU2.out.cell 2
      have c3 : w2.cell? ⟨w.heap.size + 1 + 1 + 1, 3, none⟩ = some (.int .u64 (wdI u 3)) := hU2.out.cell 3
      have fz : ∀ i, w2.frozen? ⟨w.heap.size + 1 + 1 + 1, i, none⟩ = false := hU2.out.frozen
      go_wp2
      go_roundw
      case rel =>
       refine ⟨k + 1, by go_num, by omega, ?_, ?_, ?_, ?_, ?_⟩
       ·exact (((hA2.out.other (by simp; omega) _).other (by simp; omega) _).other (by simp; omega) _).other (by simp; omega) _
       ·exact (((hA3.out.other (by simp) _).other (by simp) _).other (by simp) _).other (by simp) _
       ·exact (((hZ2.out.other (by simp) _).other (by simp) _).other (by simp) _).other (by simp) _
       ·rw [HN2.out]; exact hU2.out.set4 _ _ _ _
       ·exact below_set4 hBC.out (by omega) _ _ _ _
      case measure => simp [intOf]; omega
  ·obtain rfl : k = 256 := by omega
   obtain ⟨ns, hns⟩ : ∃ ns, ns = L 256 := ⟨_, rfl⟩
   rw [← hns] at hU
   have HNS := Lib.hid hns
   clear hns
   have c0 : wr.cell? ⟨w.heap.size + 1 + 1 + 1, 0, none⟩ = some (.int .u64 (wdI ns 0)) := Blk.cell hU.out 0
   have c1 : wr.cell? ⟨w.heap.size + 1 + 1 + 1, 1, none⟩ = some (.int .u64 (wdI ns 1)) := Blk.cell hU.out 1
   have c2 : wr.cell? ⟨w.heap.size + 1 + 1 + 1, 2, none⟩ = some (.int .u64 (wdI ns 2)) := Blk.cell hU.out 2
   have c3 : wr.cell? ⟨w.heap.size + 1 + 1 + 1, 3, none⟩ = some (.int .u64 (wdI ns 3)) := Blk.cell hU.out 3
   have z0 : wr.cell? ⟨w.heap.size + 1 + 1, 0, none⟩ = some (.int .u64 0) := Blk.cell hZ.out 0
   have z1 : wr.cell? ⟨w.heap.size + 1 + 1, 1, none⟩ = some (.int .u64 0) := Blk.cell hZ.out 1
   have z2 : wr.cell? ⟨w.heap.size + 1 + 1, 2, none⟩ = some (.int .u64 0) := Blk.cell hZ.out 2
   have z3 : wr.cell? ⟨w.heap.size + 1 + 1, 3, none⟩ = some (.int .u64 0) := Blk.cell hZ.out 3
   have fz : ∀ i, wr.frozen? ⟨w.heap.size + 1 + 1, i, none⟩ = false := Blk.frozen hZ.out
   go_wp2
   have y := Blk.set4 hZ.out (.int .u64 (wdI ns 0)) (.int .u64 (wdI ns 1)) (.int .u64 (wdI ns 2)) (.int .u64 (wdI ns 3))
   have y0 := y.cell 0
   have y1 := y.cell 1
   have y2 := y.cell 2
   have y3 := y.cell 3
   refine bodyPost_ret (v := .agg #[.int .u64 (wdI ns 0), .int .u64 (wdI ns 1), .int .u64 (wdI ns 2), .int .u64 (wdI ns 3)]) (by simp [results, Tryz.results57, go_sem, y0, y1, y2, y3]) rfl ⟨by rw [HNS.out], ?_⟩
   exact below_set4 hB.out (by omega) _ _ _ _

theorem rboth_join (a b : BS) (w : World) : Calls Tryz.prog 57 #[vset a, vset b, .int .i64 1] w fun e w' => e = .returned (vset (a ||| b)) ∧ Below w.heap.size w w' := by
 have h := rboth_low a b 1 (fun x y => x || y) (.inr (.inl ⟨rfl, fun _ _ => rfl⟩)) w
 rw [lowB_eq _ (a ||| b) (fun j _ => by rw [BitVec.getLsbD_or])] at h
 exact h
end Go.Proofs.YtodnlcbnbkkanaaGreatDoor
end
section
namespace Go.Proofs.YtodnlcbnbkkanaaGreatDoor
open Go Go.RowKit

def addF (F : List BS) (M : List Bool) : List SymM → BS → BS
 | [], u => u
 | s :: r, u => if symE M s then addF F M r (u ||| symF F s) else u ||| symF F s
theorem addF_has {F : List BS} {M : List Bool} : ∀ (l : List SymM) (u : BS) (b : Nat), u.getLsbD b = true → (addF F M l u).getLsbD b = true := by
 intro l
 induction l with
 | nil => intro u b h; exact h
 | cons s r ih =>
  intro u b h
  unfold addF
  split
  ·exact ih _ b (by rw [BitVec.getLsbD_or, h, Bool.true_or])
  ·rw [BitVec.getLsbD_or, h, Bool.true_or]
theorem addF_of {F : List BS} {M : List Bool} : ∀ (l : List SymM) (u : BS) (b : Nat), (addF F M l u).getLsbD b = true → u.getLsbD b = true ∨ ∃ (i : Nat) (s : SymM), l[i]? = some s ∧ AheadE M l i ∧ (symF F s).getLsbD b = true := by
 intro l
 induction l with
 | nil => intro u b h; exact .inl h
 | cons s r ih =>
  intro u b h
  unfold addF at h
  cases he : symE M s with
  | true =>
   rw [he, if_pos rfl] at h
   rcases ih _ b h with h | ⟨i, t, h1, h2, h3⟩
   ·rw [BitVec.getLsbD_or, Bool.or_eq_true] at h
    rcases h with h | h
    ·exact .inl h
    ·exact .inr ⟨0, s, rfl, fun j t hj => by omega, h⟩
   ·refine .inr ⟨i + 1, t, h1, fun j t' hj hs => ?_, h3⟩
    cases j with
    | zero => cases hs; exact he
    | succ j => exact h2 j t' (by omega) hs
  | false =>
   rw [he, if_neg (by decide)] at h
   rw [BitVec.getLsbD_or, Bool.or_eq_true] at h
   rcases h with h | h
   ·exact .inl h
   ·exact .inr ⟨0, s, rfl, fun j t hj => by omega, h⟩
theorem addF_sym {F : List BS} {M : List Bool} : ∀ (l : List SymM) (u : BS) (i : Nat) (s : SymM) (b : Nat), l[i]? = some s → AheadE M l i → (symF F s).getLsbD b = true → (addF F M l u).getLsbD b = true := by
 intro l
 induction l with
 | nil => intro u i s b h; simp at h
 | cons t r ih =>
  intro u i s b h ha hb
  unfold addF
  cases i with
  | zero =>
   cases h
   split
   ·exact addF_has r _ b (by rw [BitVec.getLsbD_or, hb, Bool.or_true])
   ·rw [BitVec.getLsbD_or, hb, Bool.or_true]
  | succ i =>
   have he : symE M t = true := ha 0 t (by omega) rfl
   rw [he, if_pos rfl]
   exact ih _ i s b h (fun j t' hj hs => ha (j + 1) t' (by omega) hs) hb
theorem quietF_of {F : List BS} {M : List Bool} {x : ProdM} (h : addF F M x.right (F.getD x.left.toNat 0#256) = F.getD x.left.toNat 0#256) : QuietF M x F := fun i s hi ha => by
 refine BitVec.eq_of_getLsbD_eq fun b _ => ?_
 rw [BitVec.getLsbD_or]
 cases hb : (symF F s).getLsbD b with
 | false => rw [Bool.or_false]
 | true =>
  have := addF_sym (F := F) (M := M) x.right (F.getD x.left.toNat 0#256) i s b hi ha hb
  rw [h] at this
  rw [this, Bool.or_true]
theorem SoundF.add {g : GramM} (hm : MayB g) {M L : List Bool} (hM : NullP g M) (hL : Live g L) (hs : MaySet g) {F : List BS} (hF : SoundF g F) {x : ProdM} (hx : x ∈ livL g L) : SoundF g (F.set x.left.toNat (addF F M x.right (F.getD x.left.toNat 0#256))) := by
 intro k t hk b hb
 rw [List.getElem?_set] at hk
 split at hk
 ·next e =>
  split at hk
  ·next hlt =>
   cases hk
   subst e
   rcases addF_of x.right _ _ hb with h | ⟨i, s, h1, h2, h3⟩
   ·rw [List.getD_eq_getElem?_getD, List.getElem?_eq_getElem hlt] at h
    exact hF _ _ (List.getElem?_eq_getElem hlt) b h
   ·have hst := SoundF.step hm hM hL hs hF hx h1 h2
    refine hst x.left.toNat _ (List.getElem?_set_self hlt) b ?_
    rw [BitVec.getLsbD_or, h3, Bool.or_true]
  ·cases hk
 ·exact hF k t hk b hb
theorem sumA_nn {S : List Int} : ∀ (l : List SymM) (n : Int), 0 ≤ n → (∀ s, s ∈ l → 0 ≤ symN S s) → 0 ≤ sumA S l n := by
 intro l
 induction l with
 | nil => intro n h _; exact h
 | cons s r ih =>
  intro n h hs
  have h0 := hs s (by simp)
  rw [sumA_cons, if_neg (by omega)]
  exact ih _ (by omega) (fun t ht => hs t (by simp [ht]))
theorem gi_short {g : GramM} {S : List Int} (hS : ShortP g S) {k : Nat} (hk : k < g.sorts.length) : 0 ≤ gi S (k : Int) ↔ ∃ t, TX g k t := by
 obtain ⟨n, hn⟩ : ∃ n, S[k]? = some n := ⟨_, List.getElem?_eq_getElem (by rw [hS.1]; exact hk)⟩
 have hg : gi S (k : Int) = n := by unfold gi; simp [List.getD_eq_getElem?_getD, hn]
 rw [hg]
 rcases hS.2 k n hn with ⟨h1, h2⟩ | ⟨t, h1, h2, _⟩
 ·exact ⟨fun h => by omega, fun ⟨t, ht⟩ => absurd ht (h2 t)⟩
 ·exact ⟨fun _ => ⟨t, h1⟩, fun _ => by omega⟩
theorem sum_live {g : GramM} (hm : MayB g) (hs : MaySet g) {S : List Int} (hS : ShortP g S) {x : ProdM} (hx : x ∈ g.prods) : 0 ≤ sumA S x.right 0 ↔ ∀ y, y ∈ x.right → ∃ t, SymT (TX g) y t := by
 constructor
 ·intro h y hy
  have h1 := (sumA_ge S x.right 0 (by omega) (by omega) h y hy).1
  by_cases hk : y.kind = 1
  ·obtain ⟨k, hsk, hkn⟩ := hm.sym x hx y hy hk
   unfold symN at h1
   rw [if_pos hk, hsk, gi_short hS hkn] at h1
   obtain ⟨t, ht⟩ := h1
   exact ⟨t, .inl ⟨hk, by rw [hsk, Int.toNat_natCast]; exact ht⟩⟩
  ·obtain ⟨c, hc⟩ := bv_bit (hs.set x hx y hy hk).2
   exact ⟨[c], .inr ⟨hk, c, rfl, hc⟩⟩
 ·intro h
  refine sumA_nn _ _ (by omega) fun y hy => ?_
  unfold symN
  by_cases hk : y.kind = 1
  ·obtain ⟨k, hsk, hkn⟩ := hm.sym x hx y hy hk
   rw [if_pos hk, hsk, gi_short hS hkn]
   obtain ⟨t, ht⟩ := h y hy
   rcases ht with ⟨_, ht⟩ | ⟨hn, _⟩
   ·exact ⟨t, by rw [hsk, Int.toNat_natCast] at ht; exact ht⟩
   ·exact absurd hk hn
  ·rw [if_neg hk]; omega
end Go.Proofs.YtodnlcbnbkkanaaGreatDoor
end
section
namespace Go.Proofs.YtodnlcbnbkkanaaGreatDoor
open Go Go.RowKit

def liveS (S : List Int) : List Bool := S.map fun n => decide (0 ≤ n)
theorem live_short {g : GramM} (hm : MayB g) (hs : MaySet g) {S : List Int} (h : ShortP g S) : Live g (liveS S) := by
 refine ⟨by unfold liveS; rw [List.length_map]; exact h.1, fun k => ?_⟩
 unfold liveS
 rw [List.getElem?_map]
 constructor
 ·intro hk
  obtain ⟨n, hn, h0⟩ := Option.map_eq_some_iff.1 hk
  have h0' : 0 ≤ n := by simpa using h0
  rcases h.2 k n hn with ⟨e, _⟩ | ⟨t, ht, _⟩
  ·omega
  ·exact (pv_iff hs).2 ⟨t, ht⟩
 ·intro hk
  obtain ⟨t, ht⟩ := (pv_iff hs).1 hk
  obtain ⟨x, hx, _, hl, _⟩ := ht.out
  obtain ⟨k', e1, e2⟩ := hm.left x hx
  rw [e1, Int.toNat_natCast] at hl
  subst hl
  obtain ⟨n, hn⟩ : ∃ n, S[k']? = some n := ⟨_, List.getElem?_eq_getElem (by rw [h.1]; exact e2)⟩
  rw [hn]
  rcases h.2 k' n hn with ⟨e, e2⟩ | ⟨t', _, e, _⟩
  ·exact absurd ht (e2 t)
  ·have : 0 ≤ n := by omega
   simp [this]
theorem mem_live {g : GramM} (hm : MayB g) (hs : MaySet g) {S : List Int} (h : ShortP g S) {x : ProdM} (hx : x ∈ g.prods) : x ∈ livL g (liveS S) ↔ treeP x ∧ 0 ≤ sumA S x.right 0 := by
 have hL := live_short hm hs h
 constructor
 ·intro hl
  exact ⟨(livL_mem.1 hl).2.1, (sum_live hm hs h hx).2 (live_syms hs hL hl)⟩
 ·rintro ⟨h1, h2⟩
  exact live_mem hs hL hx h1 ((sum_live hm hs h hx).1 h2)
theorem addF_or {F : List BS} {M : List Bool} (l : List SymM) (u : BS) : u ||| addF F M l u = addF F M l u := by
 refine BitVec.eq_of_getLsbD_eq fun b _ => ?_
 rw [BitVec.getLsbD_or]
 cases hb : u.getLsbD b with
 | false => rw [Bool.false_or]
 | true => rw [Bool.true_or, addF_has l u b hb]
theorem cntZ_addF {F : List BS} {M : List Bool} {l : List SymM} {u : BS} (h : addF F M l u ≠ u) : cntZ (addF F M l u) < cntZ u := by
 have := cntZ_or (s := u) (m := addF F M l u) (by rw [addF_or]; exact h)
 rwa [addF_or] at this
def FarF (F : List BS) (M : List Bool) (l : List SymM) (q : BS) (k : Nat) (u : BS) (a : Bool) : Prop := (a = true → addF F M (l.drop k) u = q) ∧ (a = false → u = q)
theorem FarF.start (F : List BS) (M : List Bool) (l : List SymM) (u : BS) : FarF F M l (addF F M l u) 0 u true := ⟨fun _ => by rw [List.drop_zero], fun h => by cases h⟩
theorem FarF.step {F : List BS} {M : List Bool} {l : List SymM} {q : BS} {k : Nat} {u : BS} (h : FarF F M l q k u true) {s : SymM} (hs : l[k]? = some s) : FarF F M l q (k + 1) (u ||| symF F s) (symE M s) := by
 have h1 := h.1 rfl
 have hl := (List.getElem?_eq_some_iff.1 hs).1
 have he := (List.getElem?_eq_some_iff.1 hs).2
 rw [List.drop_eq_getElem_cons hl, he] at h1
 unfold addF at h1
 refine ⟨fun e => ?_, fun e => ?_⟩
 ·rw [e, if_pos rfl] at h1; exact h1
 ·rw [e, if_neg (by decide)] at h1; exact h1
theorem FarF.done {F : List BS} {M : List Bool} {l : List SymM} {q : BS} {k : Nat} {u : BS} {a : Bool} (h : FarF F M l q k u a) (hk : a = false ∨ l.length ≤ k) : u = q := by
 cases a with
 | false => exact h.2 rfl
 | true =>
  rcases hk with hk | hk
  ·cases hk
  ·have := h.1 rfl
   rw [List.drop_eq_nil_of_le hk] at this
   exact this

structure RoundF (g : GramM) (M L : List Bool) (F0 F : List BS) (j : Nat) (c : Bool) : Prop where
 len : F.length = g.sorts.length
 sound : SoundF g F
 no : c = false → F = F0 ∧ ∀ (i : Nat) (x : ProdM), i < j → g.prods[i]? = some x → x ∈ livL g L → QuietF M x F0
 yes : c = true → sizeZ F < sizeZ F0
theorem RoundF.quiet {g : GramM} {M L : List Bool} {F0 F : List BS} {j : Nat} {c : Bool} (h : RoundF g M L F0 F j c) {x : ProdM} (hx : g.prods[j]? = some x) (hq : x ∈ livL g L → QuietF M x F) : RoundF g M L F0 F (j + 1) c :=
 ⟨h.len, h.sound, fun hc => ⟨(h.no hc).1, fun i y hi hy hl => by
  by_cases e : i = j
  ·subst e
   rw [hx] at hy
   cases hy
   rw [← (h.no hc).1]
   exact hq hl
  ·exact (h.no hc).2 i y (by omega) hy hl⟩, h.yes⟩
theorem RoundF.more {g : GramM} (hm : MayB g) (hs : MaySet g) {M L : List Bool} (hM : NullP g M) (hL : Live g L) {F0 F : List BS} {j : Nat} {c : Bool} (h : RoundF g M L F0 F j c) {x : ProdM} (hx : x ∈ livL g L) {k : Nat} (hk : x.left = k) (hne : addF F M x.right (F.getD k 0#256) ≠ F.getD k 0#256) : RoundF g M L F0 (F.set k (addF F M x.right (F.getD k 0#256))) (j + 1) true := by
 obtain ⟨k', e1, e2⟩ := hm.left x (livL_mem.1 hx).1
 have hkk : k = k' := by omega
 subst hkk
 have hget : F[k]? = some (F.getD k 0#256) := by
  rw [List.getD_eq_getElem?_getD, List.getElem?_eq_getElem (by rw [h.len]; exact e2)]; rfl
 have hlt := sizeZ_set hget (cntZ_addF hne)
 have hset := h.sound.add hm hM hL hs hx
 rw [hk, Int.toNat_natCast] at hset
 refine ⟨by rw [List.length_set]; exact h.len, hset, fun hc => (by cases hc), fun _ => ?_⟩
 cases c with
 | true => have := h.yes rfl; omega
 | false => have := (h.no rfl).1; subst this; exact hlt
theorem RoundF.done {g : GramM} (hm : MayB g) (hs : MaySet g) {M L : List Bool} (hM : NullP g M) (hL : Live g L) {F0 F : List BS} {j : Nat} (h : RoundF g M L F0 F j false) (hj : g.prods.length ≤ j) : FirstP g F := by
 obtain ⟨h1, h2⟩ := h.no rfl
 subst h1
 refine firstP_of hm hs hM hL h.len h.sound fun x hx => ?_
 obtain ⟨i, hi⟩ := List.mem_iff_getElem?.1 (livL_mem.1 hx).1
 exact h2 i x (Nat.lt_of_lt_of_le (List.getElem?_eq_some_iff.1 hi).1 hj) hi hx
theorem quiet_add {g : GramM} {M : List Bool} {F : List BS} {x : ProdM} {k : Nat} (hk : x.left = k) (h : addF F M x.right (F.getD k 0#256) = F.getD k 0#256) : QuietF M x F := quietF_of (by rw [hk, Int.toNat_natCast]; exact h)

def allE (M : List Bool) : List SymM → Bool
 | [] => true
 | s :: r => symE M s && allE M r
theorem here_bytes {F : List BS} {M : List Bool} (b : BackM) : ∀ (r : List SymM) (u : BS), u ||| (hereL F M b r).bytes = (if allE M r then addF F M r u ||| b.bytes else addF F M r u) := by
 intro r
 induction r with
 | nil => intro u; rfl
 | cons s r ih =>
  intro u
  have e1 : hereL F M b (s :: r) = aheadM (hereL F M b r) (symF F s) (symE M s) := rfl
  have e2 : addF F M (s :: r) u = if symE M s then addF F M r (u ||| symF F s) else u ||| symF F s := rfl
  have e3 : allE M (s :: r) = (symE M s && allE M r) := rfl
  rw [e1, e2, e3]
  cases symE M s with
  | false => rfl
  | true =>
   have h := ih (u ||| symF F s)
   rw [Bool.true_and, if_pos rfl, ← h]
   show u ||| ((hereL F M b r).bytes ||| symF F s) = u ||| symF F s ||| (hereL F M b r).bytes
   rw [BitVec.or_comm (hereL F M b r).bytes, BitVec.or_assoc]
theorem here_fin {F : List BS} {M : List Bool} (b : BackM) : ∀ (r : List SymM), (hereL F M b r).fin = (allE M r && b.fin) ∧ (hereL F M b r).there = b.there := by
 intro r
 induction r with
 | nil => exact ⟨by rw [allE, Bool.true_and]; rfl, rfl⟩
 | cons s r ih =>
  have e1 : hereL F M b (s :: r) = aheadM (hereL F M b r) (symF F s) (symE M s) := rfl
  have e3 : allE M (s :: r) = (symE M s && allE M r) := rfl
  rw [e1, e3]
  cases symE M s with
  | false => exact ⟨by rw [Bool.false_and, Bool.false_and]; rfl, ih.2⟩
  | true => exact ⟨by rw [Bool.true_and]; exact ih.1, ih.2⟩
def tellR (F : List BS) (M : List Bool) (b0 b : BackM) (r : List SymM) : BackM := ⟨true, if allE M r then addF F M r b.bytes ||| b0.bytes else addF F M r b.bytes, b.fin || (allE M r && b0.fin)⟩
theorem tellR_eq {F : List BS} {M : List Bool} {b0 b : BackM} (h : b0.there = true) (r : List SymM) : tellR F M b0 b r = b.join (hereL F M b0 r) := by
 have h1 := here_bytes (F := F) (M := M) b0 r b.bytes
 have h2 := here_fin (F := F) (M := M) b0 r
 unfold tellR BackM.join
 rw [h1, h2.1, h2.2, h, Bool.or_true]
def FarB (F : List BS) (M : List Bool) (r : List SymM) (q : BS) (z : Bool) (k : Nat) (u : BS) (a : Bool) : Prop := (a = true → addF F M (r.drop k) u = q ∧ allE M (r.drop k) = z) ∧ (a = false → u = q ∧ z = false)
theorem FarB.start (F : List BS) (M : List Bool) (r : List SymM) (i : Nat) (u : BS) : FarB F M r (addF F M (r.drop i) u) (allE M (r.drop i)) i u true := ⟨fun _ => ⟨rfl, rfl⟩, fun h => by cases h⟩
theorem FarB.step {F : List BS} {M : List Bool} {l : List SymM} {q : BS} {z : Bool} {k : Nat} {u : BS} (h : FarB F M l q z k u true) {s : SymM} (hs : l[k]? = some s) : FarB F M l q z (k + 1) (u ||| symF F s) (symE M s) := by
 obtain ⟨h1, h2⟩ := h.1 rfl
 have hl := (List.getElem?_eq_some_iff.1 hs).1
 have he := (List.getElem?_eq_some_iff.1 hs).2
 rw [List.drop_eq_getElem_cons hl, he] at h1 h2
 unfold addF at h1
 unfold allE at h2
 refine ⟨fun e => ?_, fun e => ?_⟩
 ·rw [e, if_pos rfl] at h1; rw [e, Bool.true_and] at h2; exact ⟨h1, h2⟩
 ·rw [e, if_neg (by decide)] at h1; rw [e, Bool.false_and] at h2; exact ⟨h1, h2.symm⟩
theorem FarB.done {F : List BS} {M : List Bool} {l : List SymM} {q : BS} {z : Bool} {k : Nat} {u : BS} {a : Bool} (h : FarB F M l q z k u a) (hk : a = false ∨ l.length ≤ k) : u = q ∧ a = z := by
 cases a with
 | false => exact ⟨(h.2 rfl).1, (h.2 rfl).2.symm⟩
 | true =>
  rcases hk with hk | hk
  ·cases hk
  ·have := h.1 rfl
   rw [List.drop_eq_nil_of_le hk] at this
   exact this

structure RoundB (g : GramM) (F : List BS) (M L : List Bool) (B0 B : List BackM) (c : Bool) (Q : List BackM → Prop) : Prop where
 len : B.length = g.sorts.length
 sound : SoundB g B
 no : c = false → B = B0 ∧ Q B0
 yes : c = true → sizeB B < sizeB B0
def QB (g : GramM) (F : List BS) (M L : List Bool) (j : Nat) (B : List BackM) : Prop := ∀ (i : Nat) (x : ProdM), i < j → g.prods[i]? = some x → x ∈ livL g L → QuietB F M x B
def PlaceB (F : List BS) (M : List Bool) (x : ProdM) (i : Nat) (s : SymM) (B : List BackM) : Prop := (B.getD s.sort.toNat noB).join (hereL F M (B.getD x.left.toNat noB) (x.right.drop (i + 1))) = B.getD s.sort.toNat noB
def QX (g : GramM) (F : List BS) (M L : List Bool) (j : Nat) (x : ProdM) (m : Nat) (B : List BackM) : Prop := QB g F M L j B ∧ ∀ (i : Nat) (s : SymM), i < m → x.right[i]? = some s → s.kind = 1 → PlaceB F M x i s B
section
variable {g : GramM} {F : List BS} {M L : List Bool} {B0 B : List BackM} {j : Nat} {c : Bool}
theorem RoundB.imp {Q R : List BackM → Prop} (h : RoundB g F M L B0 B c Q) (hi : c = false → B = B0 → Q B0 → R B0) : RoundB g F M L B0 B c R :=
 ⟨h.len, h.sound, fun hc => ⟨(h.no hc).1, hi hc (h.no hc).1 (h.no hc).2⟩, h.yes⟩
theorem QB.next {x : ProdM} (h : QB g F M L j B) (hx : g.prods[j]? = some x) (hq : x ∈ livL g L → QuietB F M x B) : QB g F M L (j + 1) B := fun i y hi hy hl => by
 by_cases e : i = j
 ·subst e
  rw [hx] at hy
  cases hy
  exact hq hl
 ·exact h i y (by omega) hy hl
theorem RoundB.skip {x : ProdM} (h : RoundB g F M L B0 B c (QB g F M L j)) (hx : g.prods[j]? = some x) (hq : x ∈ livL g L → (B.getD x.left.toNat noB).there = false) : RoundB g F M L B0 B c (QB g F M L (j + 1)) :=
 h.imp fun _ e hQ => hQ.next hx fun hl hth => by rw [← e, hq hl] at hth; cases hth
theorem RoundB.into {x : ProdM} (h : RoundB g F M L B0 B c (QB g F M L j)) : RoundB g F M L B0 B c (QX g F M L j x 0) := h.imp fun _ _ hQ => ⟨hQ, fun i s hi => by omega⟩
theorem RoundB.out {x : ProdM} {m : Nat} (h : RoundB g F M L B0 B c (QX g F M L j x m)) (hx : g.prods[j]? = some x) (hm : x.right.length ≤ m) : RoundB g F M L B0 B c (QB g F M L (j + 1)) :=
 h.imp fun _ _ hQ => hQ.1.next hx fun _ _ i s hs hk => hQ.2 i s (Nat.lt_of_lt_of_le (List.getElem?_eq_some_iff.1 hs).1 hm) hs hk
theorem RoundB.pass {x : ProdM} {m : Nat} (h : RoundB g F M L B0 B c (QX g F M L j x m)) {s : SymM} (hs : x.right[m]? = some s) (hp : s.kind = 1 → PlaceB F M x m s B) : RoundB g F M L B0 B c (QX g F M L j x (m + 1)) :=
 h.imp fun _ e hQ => ⟨hQ.1, fun i t hi ht hk => by
  by_cases e2 : i = m
  ·subst e2
   rw [hs] at ht
   cases ht
   rw [← e]; exact hp hk
  ·exact hQ.2 i t (by omega) ht hk⟩
theorem RoundB.more (hm : MayB g) (hs : MaySet g) (hM : NullP g M) (hL : Live g L) (hF : SoundF g F) {x : ProdM} {m : Nat} (h : RoundB g F M L B0 B c (QX g F M L j x m)) (hx : x ∈ livL g L) (hth : (B.getD x.left.toNat noB).there = true) {s : SymM} (hsm : x.right[m]? = some s) (hk : s.kind = 1) (hne : ¬ PlaceB F M x m s B) : RoundB g F M L B0 (B.set s.sort.toNat ((B.getD s.sort.toNat noB).join (hereL F M (B.getD x.left.toNat noB) (x.right.drop (m + 1))))) true (QX g F M L j x (m + 1)) := by
 have hxm := (livL_mem.1 hx).1
 obtain ⟨kl, l1, l2⟩ := hm.left x hxm
 obtain ⟨k, e1, e2⟩ := hm.sym x hxm s (List.mem_of_getElem? hsm) hk
 have hgl : B[kl]? = some (B.getD kl noB) := by
  rw [List.getD_eq_getElem?_getD, List.getElem?_eq_getElem (by rw [h.len]; exact l2)]; rfl
 have hget : B[k]? = some (B.getD k noB) := by
  rw [List.getD_eq_getElem?_getD, List.getElem?_eq_getElem (by rw [h.len]; exact e2)]; rfl
 have hb0 : SnH (Ctx g x.left.toNat) (B.getD x.left.toNat noB) := by
  rw [l1, Int.toNat_natCast]; exact h.sound.1 _ _ hgl
 have hset := h.sound.step hm hs hM hL hF hx hb0 hth hsm hk
 have hlt : sizeB (B.set s.sort.toNat ((B.getD s.sort.toNat noB).join (hereL F M (B.getD x.left.toNat noB) (x.right.drop (m + 1))))) < sizeB B := by
  refine sizeB_set (s := B.getD s.sort.toNat noB) (by rw [e1, Int.toNat_natCast]; exact hget) (cntB_join hne)
 refine ⟨by rw [List.length_set]; exact h.len, hset, fun hc => (by cases hc), fun _ => ?_⟩
 cases c with
 | true => have := h.yes rfl; omega
 | false => have := (h.no rfl).1; subst this; exact hlt
theorem RoundB.done (hm : MayB g) (hs : MaySet g) (hM : NullP g M) (hL : Live g L) (hF : FirstP g F) (h : RoundB g F M L B0 B false (QB g F M L j)) (hj : g.prods.length ≤ j) : BackP g B := by
 obtain ⟨h1, h2⟩ := h.no rfl
 subst h1
 refine backP_of hm hs hM hL hF h.len h.sound fun x hx => ?_
 obtain ⟨i, hi⟩ := List.mem_iff_getElem?.1 (livL_mem.1 hx).1
 exact h2 i x (Nat.lt_of_lt_of_le (List.getElem?_eq_some_iff.1 hi).1 hj) hi hx
end
end Go.Proofs.YtodnlcbnbkkanaaGreatDoor
end
section
namespace Go.Proofs.YtodnlcbnbkkanaaGreatDoor
open Go Go.RowKit

def matL (n : Nat) (m : Nat → Nat → Bool) : List Bool := (List.range (n * n)).map fun i => m (i / n) (i % n)
def upd (m : Nat → Nat → Bool) (a c : Nat) : Nat → Nat → Bool := fun x y => if x = a ∧ y = c then true else m x y
def EdgeR (g : GramM) (S : List Int) (M : List Bool) (j i : Nat) (a b : Nat) : Prop := ∃ (j' i' : Nat) (x : ProdM) (s : SymM), g.prods[j']? = some x ∧ (j' < j ∨ (j' = j ∧ i' < i)) ∧ treeP x ∧ x.right[i']? = some s ∧ s.kind = 1 ∧ 0 ≤ gi S s.sort ∧ AloneP M x i' ∧ x.left = a ∧ s.sort = b
section
variable {g : GramM} {S : List Int} {M : List Bool} {j i : Nat} {x : ProdM} {s : SymM} {a b : Nat}
end

def cntF (n : Nat) (m : Nat → Nat → Bool) (a : Nat) : Nat := (List.range n).countP fun c => !m a c
theorem countP_lt {p q : Nat → Bool} {c : Nat} : ∀ {l : List Nat}, c ∈ l → p c = true → q c = false → (∀ x, q x = true → p x = true) → l.countP q < l.countP p := by
 intro l
 induction l with
 | nil => intro h; cases h
 | cons y r ih =>
  intro h hp hq hi
  rw [List.countP_cons, List.countP_cons]
  have hmono : r.countP q ≤ r.countP p := List.countP_mono_left fun x _ hx => hi x hx
  rcases List.mem_cons.1 h with rfl | h
  ·rw [hp, hq]; simp; omega
  ·have := ih h hp hq hi
   by_cases hy : q y = true
   ·rw [hy, hi y hy]; simp; omega
   ·have : q y = false := by simpa using hy
    rw [this]; simp; split <;> omega
def Clo (n : Nat) (E : Nat → Nat → Prop) (m : Nat → Nat → Bool) (a : Nat) : Prop := ∀ b c, m a b = true → E b c → m a c = true
def InvR (n : Nat) (E : Nat → Nat → Prop) (r : Nat) (m : Nat → Nat → Bool) (a : Nat) : Prop := Clo n E m a ∨ r + cntF n m a ≤ n
structure Mk (n : Nat) (E : Nat → Nat → Prop) (m : Nat → Nat → Bool) : Prop where
 sound : ∀ a c, m a c = true → Far E a c
 incl : ∀ a c, E a c → m a c = true
structure RowR (n : Nat) (E : Nat → Nat → Prop) (m0 m : Nat → Nat → Bool) (a b c : Nat) : Prop where
 ok : Mk n E m
 other : ∀ x, x ≠ a → m x = m0 x
 prog : (m = m0 ∧ ∀ b' c', b' < b ∨ (b' = b ∧ c' < c) → m a b' = true → E b' c' → m a c' = true) ∨ cntF n m a < cntF n m0 a
 still : Clo n E m0 a → m = m0
structure RndR (n : Nat) (E : Nat → Nat → Prop) (r a : Nat) (m : Nat → Nat → Bool) : Prop where
 ok : Mk n E m
 inv : ∀ x, x < n → InvR n E (if x < a then r + 1 else r) m x
end Go.Proofs.YtodnlcbnbkkanaaGreatDoor
end
section
namespace Go.Proofs.YtodnlcbnbkkanaaGreatDoor
open Go Go.RowKit

theorem cells6s {W : World} {B t : Nat} {u0 u1 u2 u3 u4 u5 : Value} (h : Blk W B t #[u0, u1, u2, u3, u4, u5]) : W.cell? ⟨B, 0, none⟩ = some u0 ∧ W.cell? ⟨B, 1, none⟩ = some u1 ∧ W.cell? ⟨B, 2, none⟩ = some u2 ∧ W.cell? ⟨B, 3, none⟩ = some u3 ∧ W.cell? ⟨B, 4, none⟩ = some u4 ∧ W.cell? ⟨B, 5, none⟩ = some u5 :=
 ⟨h.cell 0, h.cell 1, h.cell 2, h.cell 3, h.cell 4, h.cell 5⟩
structure CB (g : GramM) (w : World) (Bs Bn Bd n : Nat) (S : List Int) (M : List Bool) (m : Nat → Nat → Bool) (W : World) : Prop where
 b0 : Blk W w.heap.size 27 (gramC g)
 s : Blk W Bs 3 (ints S)
 nl : Blk W Bn 4 (bools M)
 d : Blk W Bd 4 (bools (matL n m))
 b : Below w.heap.size w W
 low : w.heap.size < Bd ∧ Bs ≠ Bd ∧ Bn ≠ Bd
structure TwoC (g : GramM) (w : World) (Bs Bn : Nat) (S : List Int) (M : List Bool) (W : World) : Prop where
 b0 : Blk W w.heap.size 27 (gramC g)
 s : Blk W Bs 3 (ints S)
 nl : Blk W Bn 4 (bools M)
 b : Below w.heap.size w W
 sp : ShortP g S
 np : NullP g M
theorem make_many (n : Nat) (hn : n ≤ 1000000) (w : World) : (Instr.makeSlice 31 (.int .i64 (n : Int)) (.int .i64 (n : Int))).run Tryz.prog w = .ok (.slice (some ⟨w.heap.size, 0, none⟩) n n) (w.alloc (.cells (bools (List.replicate n false)) 4)) := by
 obtain ⟨i0, hi, hz0, hz1, hz2⟩ := info_parts Tryz.info4
 rw [← bools_made]
 exact run_make_row 31 4 i0 (.bool false) Tryz.underlying31 hi hz0 hz1 rfl .i64 .i64 n (by rw [hz2]; omega) (by omega) w
theorem rshort_weak (g : GramM) (hm : MayB g) (hs : MaySet g) (w : World) (hg : GIn w g) : Calls Tryz.prog 30 #[gramV g] w fun e w' => ∃ S B, ShortP g S ∧ e = .returned (.slice (some ⟨B, 0, none⟩) g.sorts.length g.sorts.length) ∧ w.heap.size ≤ B ∧ Blk w' B 3 (ints S) ∧ Below w.heap.size w w' :=
 (rshortest_any g hm hs w hg).mono fun _ _ ⟨S, h1, h2, h3, h4⟩ => ⟨S, _, h1, h2, by omega, h3, h4⟩
theorem rnull_weak (g : GramM) (hm : MayB g) (hs : MaySet g) (w : World) (hg : GIn w g) : Calls Tryz.prog 20 #[gramV g] w fun e w' => ∃ M B, NullP g M ∧ e = .returned (.slice (some ⟨B, 0, none⟩) g.sorts.length g.sorts.length) ∧ w.heap.size ≤ B ∧ Blk w' B 4 (bools M) ∧ Below w.heap.size w w' :=
 (rnullable_any g hm hs w hg).mono fun _ _ ⟨M, B, h1, h2, h3, h4, h5⟩ => ⟨M, B, h1, by rw [h2, h1.1], h3, h4, h5⟩
end Go.Proofs.YtodnlcbnbkkanaaGreatDoor
end
section
namespace Go.Proofs.YtodnlcbnbkkanaaGreatDoor
open Go Go.RowKit

def put4 (W : World) (B o : Nat) (t : BS) : World := (((W.setCell ⟨B, o, none⟩ (.int .u64 (wdI t 0))).setCell ⟨B, o + 1, none⟩ (.int .u64 (wdI t 1))).setCell ⟨B, o + 2, none⟩ (.int .u64 (wdI t 2))).setCell ⟨B, o + 3, none⟩ (.int .u64 (wdI t 3))
theorem put4_blk {W : World} {B k : Nat} {F : List BS} {t : BS} (h : Blk W B 47 (setsC F)) (hk : k < F.length) : Blk (put4 W B (k * 4) t) B 47 (setsC (F.set k t)) := by
 have h4 : Blk (put4 W B (k * 4) t) B 47 _ := (((h.set (k * 4) (.int .u64 (wdI t 0))).set (k * 4 + 1) (.int .u64 (wdI t 1))).set (k * 4 + 2) (.int .u64 (wdI t 2))).set (k * 4 + 3) (.int .u64 (wdI t 3))
 have hz : k * 4 + 4 ≤ (setsC F).size := by rw [setsC_size]; omega
 rw [setsC_put (t := t) hk (ds := ((((setsC F).setIfInBounds (k * 4) (.int .u64 (wdI t 0))).setIfInBounds (k * 4 + 1) (.int .u64 (wdI t 1))).setIfInBounds (k * 4 + 2) (.int .u64 (wdI t 2))).setIfInBounds (k * 4 + 3) (.int .u64 (wdI t 3))) (by simp only [Array.size_setIfInBounds]) (fun j hj => by
  rw [Array.getElem?_setIfInBounds_ne (by omega), Array.getElem?_setIfInBounds_ne (by omega), Array.getElem?_setIfInBounds_ne (by omega), Array.getElem?_setIfInBounds_ne (by omega)]) (setAt_of fun j hj => by
   have : j = 0 ∨ j = 1 ∨ j = 2 ∨ j = 3 := by omega
   rcases this with rfl | rfl | rfl | rfl
   ·rw [Array.getElem?_setIfInBounds_ne (by omega), Array.getElem?_setIfInBounds_ne (by omega), Array.getElem?_setIfInBounds_ne (by omega), Nat.add_zero, Array.getElem?_setIfInBounds_self_of_lt (by omega)]
   ·rw [Array.getElem?_setIfInBounds_ne (by omega), Array.getElem?_setIfInBounds_ne (by omega), Array.getElem?_setIfInBounds_self_of_lt (by simp only [Array.size_setIfInBounds]; omega)]
   ·rw [Array.getElem?_setIfInBounds_ne (by omega), Array.getElem?_setIfInBounds_self_of_lt (by simp only [Array.size_setIfInBounds]; omega)]
   ·rw [Array.getElem?_setIfInBounds_self_of_lt (by simp only [Array.size_setIfInBounds]; omega)])] at h4
 exact h4
theorem put4_low {N : Nat} {w W : World} {B o : Nat} {t : BS} (h : Below N w W) (hB : N ≤ B) : Below N w (put4 W B o t) :=
 (((h.setCell (p := ⟨B, o, none⟩) hB _).setCell (p := ⟨B, o + 1, none⟩) hB _).setCell (p := ⟨B, o + 2, none⟩) hB _).setCell (p := ⟨B, o + 3, none⟩) hB _
theorem put4_other {W : World} {B o C t : Nat} {b : BS} {cs : Array Value} (h : Blk W C t cs) (hne : C ≠ B) : Blk (put4 W B o b) C t cs :=
 (((h.other (a := ⟨B, o, none⟩) hne _).other (a := ⟨B, o + 1, none⟩) hne _).other (a := ⟨B, o + 2, none⟩) hne _).other (a := ⟨B, o + 3, none⟩) hne _
theorem put4_one {W : World} {B : Nat} {u : BS} (h : Blk W B 47 (cset u)) (t : BS) : Blk (put4 W B 0 t) B 47 (cset t) := by
 unfold cset at h ⊢
 exact h.set4 _ _ _ _
structure FB (g : GramM) (w : World) (Bs Bn Bo : Nat) (S : List Int) (M : List Bool) (F : List BS) (W : World) : Prop where
 b0 : Blk W w.heap.size 27 (gramC g)
 s : Blk W Bs 3 (ints S)
 nl : Blk W Bn 4 (bools M)
 o : Blk W Bo 47 (setsC F)
 b : Below w.heap.size w W
 low : w.heap.size < Bo
theorem FB.below {g : GramM} {w W V : World} {Bs Bn Bo : Nat} {S : List Int} {M : List Bool} {F : List BS} (h : FB g w Bs Bn Bo S M F W) (hB : Below W.heap.size W V) : FB g w Bs Bn Bo S M F V :=
 ⟨h.b0.below hB h.b0.lt, h.s.below hB h.s.lt, h.nl.below hB h.nl.lt, h.o.below hB h.o.lt, h.b.trans (hB.mono h.b.size), h.low⟩
theorem FB.put {g : GramM} {w W : World} {Bs Bn Bo : Nat} {S : List Int} {M : List Bool} {F : List BS} (h : FB g w Bs Bn Bo S M F W) {k : Nat} (hk : k < F.length) (t : BS) : FB g w Bs Bn Bo S M (F.set k t) (put4 W Bo (k * 4) t) :=
 ⟨put4_other h.b0 (blk_ne h.b0 h.o (by decide)), put4_other h.s (blk_ne h.s h.o (by decide)), put4_other h.nl (blk_ne h.nl h.o (by decide)), put4_blk h.o hk, put4_low h.b (Nat.le_of_lt h.low), h.low⟩
theorem set_cells {W : World} {B : Nat} {F : List BS} {k : Nat} {s : BS} (h : Blk W B 47 (setsC F)) (hk : F[k]? = some s) : W.cell? ⟨B, k * 4, none⟩ = some (.int .u64 (wdI s 0)) ∧ W.cell? ⟨B, k * 4 + 1, none⟩ = some (.int .u64 (wdI s 1)) ∧ W.cell? ⟨B, k * 4 + 2, none⟩ = some (.int .u64 (wdI s 2)) ∧ W.cell? ⟨B, k * 4 + 3, none⟩ = some (.int .u64 (wdI s 3)) := by
 have hS := setsC_at hk
 have c0 := (h.cell (k * 4 + 0)).trans (set_cell hS (j := 0) (by decide))
 rw [Nat.add_zero] at c0
 exact ⟨c0, (h.cell (k * 4 + 1)).trans (set_cell hS (j := 1) (by decide)), (h.cell (k * 4 + 2)).trans (set_cell hS (j := 2) (by decide)), (h.cell (k * 4 + 3)).trans (set_cell hS (j := 3) (by decide))⟩
def RSetsPost (w : World) (R : List BS → Prop) (e : Ending) (w' : World) : Prop := ∃ (F : List BS) (B : Nat), R F ∧ e = .returned (.slice (some ⟨B, 0, none⟩) F.length F.length) ∧ w.heap.size ≤ B ∧ Blk w' B 47 (setsC F) ∧ Below w.heap.size w w'
end Go.Proofs.YtodnlcbnbkkanaaGreatDoor
end
