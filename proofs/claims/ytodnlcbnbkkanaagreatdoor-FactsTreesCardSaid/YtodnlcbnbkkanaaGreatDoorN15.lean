import Derived.BigQuiet
import Derived.Deep.QuietTactic
import Derived.StillTailTactics
import Derived.Test.YtodnlcbnbkkanaaGreatDoorCards
import Derived.Test.YtodnlcbnbkkanaaGreatDoorTie
import Derived.WalkKit
import Derived.ProofKit
import Derived.OpenShut
import Derived.LaidMore
import Derived.Deep.DeepHandedRow
import Derived.Lib.LaidTab
import Derived.Lib.LaidU8
import Derived.Below
import Derived.Carry
import Derived.Deep.DeepWitnessRowRef
import Derived.Test.YtodnlcbnbkkanaaGreatDoorN6
import Derived.Test.YtodnlcbnbkkanaaGreatDoorN9
import Derived.Test.YtodnlcbnbkkanaaGreatDoorN14
section
namespace Go.Proofs.YtodnlcbnbkkanaaGreatDoor
open Go Go.RowKit

theorem blk_put {W : World} {T t i : Nat} {cs cs' : Array Value} (h : Blk W T t cs) (v : Value) (e : cs.setIfInBounds i v = cs') : Blk (W.setCell ⟨T, i, none⟩ v) T t cs' := e ▸ h.set i v
theorem text_nums (l : List Int) : (strOfNums l).data.toList = ub l := by
  unfold strOfNums ub
  simp

set_option maxRecDepth 100000 in
set_option maxHeartbeats 8000000 in
theorem lawTrees_vast (g : GramM) (t : TreeM) (w : World) (hg : AGram w g) (hT : TabAt 1 Lib.deBruijn64tab w) (hv : vast8 g = true) : Calls Tryz.prog 7 #[gramV g, treeV t] w fun e w' => e = .returned (.bool true) ∧ Below w.heap.size w w' := by
  have hB1 : Below w.heap.size w ((w.alloc (.cells (gramC g) 27)).alloc (.cells (treeC t) 70)) := ((Below.refl _ _).alloc (Nat.le_refl _) _).alloc (by simp) _
  have HV := Lib.hid (vast8_any g _ (hg.below hB1))
  rw [hv] at HV
  have HB := Lib.hid hB1
  have HT := Lib.hid hT
  have HWk := Lib.hid (fun W h => works_any W h)
  clear hB1 hg hT hv
  obtain ⟨p, b, ka, kc, kids⟩ := t
  unfold gramV gramC treeV treeC at *
  go_enter Tryz.func7, Tryz.ntmps7
  go_wp2_with fail
  refine HV.out.mono ?_
  rintro e w1 ⟨rfl, hB1⟩
  have HB1 := Lib.hid (HB.out.trans (hB1.mono HB.out.size))
  clear hB1
  go_wp2_with fail
  refine (HWk.out _ (tab_below HT.out HB1.out)).mono ?_
  rintro e w2 ⟨rfl, hB2⟩
  have HB2 := Lib.hid (HB1.out.trans (hB2.mono HB1.out.size))
  clear hB2
  go_wp2
  go_ret
  exact ⟨rfl, HB2.out⟩

set_option maxRecDepth 100000 in
set_option maxHeartbeats 16000000 in
theorem lawTrees_fit (g : GramM) (t : TreeM) (w : World) (hg : AGram w g) (ht : TreeIn w t) (hta : ∀ d, ATree w d t) (hT : TabAt 1 Lib.deBruijn64tab w) (hv : vast8 g = false) : Calls Tryz.prog 7 #[gramV g, treeV t] w fun e w' => e = .returned (.bool true) ∧ Below w.heap.size w w' := by
  have hf := hg.fit8 hv
  have hB0 : Below w.heap.size w ((w.alloc (.cells (gramC g) 27)).alloc (.cells (treeC t) 70)) := ((Below.refl _ _).alloc (Nat.le_refl _) _).alloc (by simp) _
  have HV := Lib.hid (vast8_any g _ (hg.below hB0))
  rw [hv] at HV
  have HB0 := Lib.hid hB0
  have HG0 := Lib.hid ((Blk.new w 27 (gramC g)).alloc (.cells (treeC t) 70))
  have HR0 : Hid (Blk ((w.alloc (.cells (gramC g) 27)).alloc (.cells (treeC t) 70)) (w.heap.size + 1) 70 (treeC t)) := Lib.hid (by
    have h := Blk.new (w.alloc (.cells (gramC g) 27)) 70 (treeC t)
    rw [World.size_alloc] at h
    exact h)
  have HSz := Lib.hid (fun W (hW : Below w.heap.size w W) => size_any 2000 (by decide) t W (TreeIn.below hW t ht))
  have HFit := Lib.hid (fun (h1 : nestB 2000 t = true) (h2 : tot 2000 t ≤ 2000) => tot_fit (w := w) 2000 t h1 (by omega) hta)
  have HCt := Lib.hid (fun (h : TFit 16384 t) W (hW : Below w.heap.size w W) => checkTree_any g t W (hg.inn.below hW) hf (TreeIn.below hW t ht) h)
  have HYi := Lib.hid (fun (h : TFit 16384 t) (h2 : (yieldL 16384 t).length ≤ 1099511627776) W (hW : Below w.heap.size w W) => yield_any t W (TreeIn.below hW t ht) h h2)
  have HWk := Lib.hid (fun W (hW : Below w.heap.size w W) => works_any W (tab_below hT hW))
  have HEr : Hid (∀ (m : Int) (W : World), Calls Tryz.prog 25 #[.int .i64 m] W fun e w' => e = .returned (.int .i64 m) ∧ W = w') := Lib.hid (fun m W => errno_any m W)
  have HP0 := Lib.hid (fun W (hW : Below w.heap.size w W) => First_any g hf W (hg.inn.below hW))
  have HP1 := Lib.hid (fun W (hW : Below w.heap.size w W) => Follow_any g hf W (hg.inn.below hW))
  have HP2 := Lib.hid (fun W (hW : Below w.heap.size w W) => Ends_any g hf W (hg.inn.below hW))
  have HP3 := Lib.hid (fun W (hW : Below w.heap.size w W) => Productive_any g hf W (hg.inn.below hW))
  have HP4 := Lib.hid (fun W (hW : Below w.heap.size w W) => Nullable_any g hf W (hg.inn.below hW))
  have HP5 := Lib.hid (fun W (hW : Below w.heap.size w W) => Shortest_any g hf W (hg.inn.below hW))
  have HIn := Lib.hid (And.intro hg.inn ht)
  have HCI : Hid (ctI g t = if !(checkB g) then 160 else if !(nestB 16384 t) then 3 else if !(treeB g 16384 t) then 163 else 0) := Lib.hid rfl
  unfold TellSets at HP0 HP1
  unfold TellEnds at HP2
  unfold TellPost at HP3 HP4
  unfold ShortTell at HP5
  unfold SizeP at HSz
  rw [show ((2000 : Nat) : Int) = 2000 from rfl] at HSz
  obtain ⟨ci, hci⟩ : ∃ ci, ci = ctI g t := ⟨_, rfl⟩
  rw [← hci] at HCt HCI
  have HTt : Hid (∃ tt, tt = t) := Lib.hid ⟨t, rfl⟩
  obtain ⟨tt, htt⟩ := HTt.out
  have HTT := Lib.hid htt
  rw [show nestB 2000 t = nestB 2000 tt by rw [htt], show tot 2000 t = tot 2000 tt by rw [htt]] at HSz HFit
  clear hB0 hg hT hv hf ht hta hci HTt
  rw [← htt] at HFit HCI HIn
  have HYi2 : Hid (∀ (h : TFit 16384 tt) (h2 : (yieldL 16384 tt).length ≤ 1099511627776) W (hW : Below w.heap.size w W), Calls Tryz.prog 36 #[treeV t] W fun e w' => e = .returned (if nestB 16384 tt then .tuple #[.string (strOfNums (yieldL 16384 tt)), .int .i64 0] else .tuple #[.string ⟨#[]⟩, .int .i64 3]) ∧ Below W.heap.size W w') := Lib.hid (by rw [htt]; exact HYi.out)
  have HCt2 : Hid (∀ (h : TFit 16384 tt) W (hW : Below w.heap.size w W), Calls Tryz.prog 35 #[gramV g, treeV t] W fun e w' => e = .returned (.int .i64 ci) ∧ Below W.heap.size W w') := Lib.hid (by rw [htt]; exact HCt.out)
  have HGo : Hid (∀ (D : TD) (W V : World) (tx : ByteArray) (whole : Bool), tx.size ≤ 1048576 → MayB D.g → MaySet D.g → ToldL D.g D.F D.FO D.L D.N D.E D.S → (∀ (k : Nat) (s : BS), D.F[k]? = some s → SetAt D.csF (k * 4) s) → (∀ (k : Nat) (s : BS), D.FO[k]? = some s → SetAt D.csO (k * 4) s) → (∀ (k : Nat) (s : Bool), D.E[k]? = some s → D.csE[k]? = some (.bool s)) → GIn w D.g → TreeIn w tt → TW D w W → GoesH D.g 16384 tt tx.data.toList 0 whole [] → Calls Tryz.prog 37 #[.pointer (some ⟨D.T, 0, none⟩), treeV t, .int .i64 0, .string tx, .bool whole] W (GoesPost D (0 + (yieldL 16384 tt).length) W)) := Lib.hid (fun D W V tx whole h1 h2 h3 h4 h5 h6 h7 h8 h9 h10 h11 => by
    have h := goes_any D h2 h3 h4 h5 h6 h7 w h8 tx h1 16384 tt 0 whole [] W h10 h9 h11
    rw [htt] at h ⊢
    exact h)
  clear HYi HCt htt
  obtain ⟨p, b, ka, kc, kids⟩ := t
  unfold treeV treeC at *
  unfold gramV gramC at *
  dsimp only at *
  go_enter Tryz.func7, Tryz.ntmps7
  go_wp2_with fail
  refine HV.out.mono ?_
  rintro e w1 ⟨rfl, hB1⟩
  have HG1 := Lib.hid (HG0.out.below hB1 (by simp; omega))
  have HR1 := Lib.hid (HR0.out.below hB1 (by simp))
  have HB1 := Lib.hid (HB0.out.trans (hB1.mono HB0.out.size))
  obtain ⟨c0, c1, c2, c3, c4⟩ := cells5s HG1.out
  have l1 := HG1.out.lt
  obtain ⟨r0, r1, r2⟩ := cells3t HR1.out
  have l2 := HR1.out.lt
  clear hB1 HG0 HR0 HB0 HV
  go_wp2_with fail
  with_reducible refine (HSz.out _ HB1.out).mono ?_
  rintro e w2 ⟨r, rfl, hr1, hr2, hr3, hB2⟩
  have HG2 := Lib.hid (HG1.out.below hB2 HG1.out.lt)
  have HR2 := Lib.hid (HR1.out.below hB2 HR1.out.lt)
  have HB2 := Lib.hid (HB1.out.trans (hB2.mono HB1.out.size))
  clear hB2 HG1 HR1 HB1 HSz c0 c1 c2 c3 c4 l1 r0 r1 r2 l2
  obtain ⟨c0, c1, c2, c3, c4⟩ := cells5s HG2.out
  have l1 := HG2.out.lt
  obtain ⟨r0, r1, r2⟩ := cells3t HR2.out
  have l2 := HR2.out.lt
  by_cases hr : 2000 < r
  · have e1 : decide ((2000 : Int) < (r : Int)) = true := by simp; omega
    clear hr3
    go_wp2_with fail
    with_reducible refine (HWk.out _ HB2.out).mono ?_
    rintro e w3 ⟨rfl, hB⟩
    have HBz := Lib.hid (HB2.out.trans (hB.mono HB2.out.size))
    clear hB
    go_wp2
    go_ret
    exact ⟨rfl, HBz.out⟩
  · have e1 : decide ((2000 : Int) < (r : Int)) = false := by simp; omega
    obtain ⟨hn2, hr4⟩ := hr3 (by omega)
    have HFt := Lib.hid (HFit.out hn2 (by omega))
    have HYl : Hid ((yieldL 16384 tt).length ≤ 2000) := Lib.hid (by
      have := yield_len 2000 tt hn2 16384 (by decide)
      omega)
    clear hr3 hr4 hn2 hr HFit
    go_wp2_with fail
    with_reducible refine (HCt2.out (HFt.out 16384) _ HB2.out).mono ?_
    rintro e w3 ⟨rfl, hB3⟩
    have HG3 := Lib.hid (HG2.out.below hB3 HG2.out.lt)
    have HR3 := Lib.hid (HR2.out.below hB3 HR2.out.lt)
    have HB3 := Lib.hid (HB2.out.trans (hB3.mono HB2.out.size))
    clear hB3 HG2 HR2 HB2 HCt2 c0 c1 c2 c3 c4 l1 r0 r1 r2 l2
    obtain ⟨c0, c1, c2, c3, c4⟩ := cells5s HG3.out
    have l1 := HG3.out.lt
    obtain ⟨r0, r1, r2⟩ := cells3t HR3.out
    have l2 := HR3.out.lt
    go_wp2_with fail
    with_reducible refine (HEr.out _ _).mono ?_
    rintro e w' ⟨rfl, rfl⟩
    by_cases hz : ci = 0
    rotate_left
    · have e2 : (ci == 0) = false := by simpa using hz
      clear hz
      go_wp2_with fail
      with_reducible refine (HWk.out _ HB3.out).mono ?_
      rintro e w4 ⟨rfl, hB⟩
      have HBz := Lib.hid (HB3.out.trans (hB.mono HB3.out.size))
      clear hB
      go_wp2
      go_ret
      exact ⟨rfl, HBz.out⟩
    · have hci := HCI.out
      rw [hz] at hci
      have Hok : Hid (checkB g = true ∧ nestB 16384 tt = true ∧ treeB g 16384 tt = true) := Lib.hid (by
        cases h1 : checkB g <;> cases h2 : nestB 16384 tt <;> cases h3 : treeB g 16384 tt <;> rw [h1, h2, h3] at hci <;> first | exact ⟨rfl, rfl, rfl⟩ | (simp at hci))
      have e2 : (ci == 0) = true := by simpa using hz
      clear hci hz HCI

      have HT3 : Hid (Blk (w3.alloc (.cells #[.slice g.sa g.sorts.length g.sc, .slice g.pa g.prods.length g.pc, .int .i64 g.start, .slice g.fa g.forbid.length g.fc, .slice g.wa g.follow.length g.wc, .slice none 0 0, .slice none 0 0, .slice none 0 0, .slice none 0 0, .slice none 0 0, .slice none 0 0, .bool true] 75)) w3.heap.size 75 #[.slice g.sa g.sorts.length g.sc, .slice g.pa g.prods.length g.pc, .int .i64 g.start, .slice g.fa g.forbid.length g.fc, .slice g.wa g.follow.length g.wc, .slice none 0 0, .slice none 0 0, .slice none 0 0, .slice none 0 0, .slice none 0 0, .slice none 0 0, .bool true]) := Lib.hid (Blk.new w3 75 _)
      have HBa : Below w3.heap.size w3 (w3.alloc (.cells #[.slice g.sa g.sorts.length g.sc, .slice g.pa g.prods.length g.pc, .int .i64 g.start, .slice g.fa g.forbid.length g.fc, .slice g.wa g.follow.length g.wc, .slice none 0 0, .slice none 0 0, .slice none 0 0, .slice none 0 0, .slice none 0 0, .slice none 0 0, .bool true] 75)) := (Below.refl _ _).alloc (Nat.le_refl _) _
      have HG4 := Lib.hid (HG3.out.below HBa HG3.out.lt)
      have HR4 := Lib.hid (HR3.out.below HBa HR3.out.lt)
      have HB4 := Lib.hid (HB3.out.trans (HBa.mono HB3.out.size))
      have hwT : w.heap.size ≤ w3.heap.size := HB3.out.size
      obtain ⟨T, hTT⟩ : ∃ T, T = w3.heap.size := ⟨_, rfl⟩
      have HTq := Lib.hid hTT
      obtain ⟨W4, hW4⟩ : ∃ W4, W4 = w3.alloc (.cells #[.slice g.sa g.sorts.length g.sc, .slice g.pa g.prods.length g.pc, .int .i64 g.start, .slice g.fa g.forbid.length g.fc, .slice g.wa g.follow.length g.wc, .slice none 0 0, .slice none 0 0, .slice none 0 0, .slice none 0 0, .slice none 0 0, .slice none 0 0, .bool true] 75) := ⟨_, rfl⟩
      have HW4 := Lib.hid hW4
      rw [← hTT, ← hW4] at HT3
      rw [← hTT] at hwT
      rw [← hW4] at HG4 HR4 HB4
      clear HBa hTT hW4
      go_upto_region 4 with fail
      rw [← HTq.out, ← HW4.out]
      clear HG3 HR3 HB3 c0 c1 c2 c3 c4 l1 r0 r1 r2 l2 HW4
      obtain ⟨c0, c1, c2, c3, c4⟩ := cells5s HG4.out
      have l1 := HG4.out.lt
      obtain ⟨r0, r1, r2⟩ := cells3t HR4.out
      have l2 := HR4.out.lt
      go_wp2_with fail
      with_reducible refine (HP0.out _ HB4.out).mono ?_
      rintro e v5 ⟨hB, ⟨hx, _⟩ | ⟨_, M0, B0, ca0, cs0, hM, hne, rfl, hBl, hk, hat⟩⟩
      · exact absurd (Hok.out.1.symm.trans hx) (by decide)
      have hln : M0.length = g.sorts.length := hM.1
      rw [hln]
      have HM0 := Lib.hid (And.intro hM hat)
      clear hne hat
      have hTv := HT3.out.below hB HT3.out.lt
      have tl := hTv.lt
      have tc := hTv.cell 5
      have tf := hTv.frozen 5
      simp only [List.getElem?_toArray, List.getElem?_cons_zero, List.getElem?_cons_succ] at tc
      obtain ⟨W5, hW5⟩ : ∃ W5, W5 = v5.setCell ⟨T, 5, none⟩ (.slice (some ⟨B0, 0, none⟩) g.sorts.length ca0) := ⟨_, rfl⟩
      have HW5 := Lib.hid hW5
      have HTn : Hid (Blk W5 T 75 #[.slice g.sa g.sorts.length g.sc, .slice g.pa g.prods.length g.pc, .int .i64 g.start, .slice g.fa g.forbid.length g.fc, .slice g.wa g.follow.length g.wc, .slice (some ⟨B0, 0, none⟩) g.sorts.length ca0, .slice none 0 0, .slice none 0 0, .slice none 0 0, .slice none 0 0, .slice none 0 0, .bool true]) := Lib.hid (by rw [hW5]; exact blk_put hTv _ rfl)
      have HB5 : Hid (Below w.heap.size w W5) := Lib.hid (by rw [hW5]; exact (HB4.out.trans (hB.mono HB4.out.size)).setCell (p := ⟨T, 5, none⟩) hwT _)
      have hgr : v5.grownBy W5 (some T) := by rw [hW5]; exact grown_set v5 T 5 _
      have HG5 := Lib.hid ((HG4.out.below hB HG4.out.lt).kept hgr (by simpa using blk_ne (HG4.out.below hB HG4.out.lt) hTv (by decide)))
      have HR5 := Lib.hid ((HR4.out.below hB HR4.out.lt).kept hgr (by simpa using blk_ne (HR4.out.below hB HR4.out.lt) hTv (by decide)))
      have HK0_5 := Lib.hid (hk.kept hgr (by simpa using blk_ne hk hTv (by decide)))
      clear hB hM hk hBl hln hTv hgr hW5 c0 c1 c2 c3 c4 l1 r0 r1 r2 l2 HG4 HR4 HB4 HT3 HP0 
      have HT5 := HTn
      clear HTn
      go_upto_region 6 with fail
      rw [← HW5.out]
      clear HW5 tl tc tf
      obtain ⟨c0, c1, c2, c3, c4⟩ := cells5s HG5.out
      have l1 := HG5.out.lt
      obtain ⟨r0, r1, r2⟩ := cells3t HR5.out
      have l2 := HR5.out.lt
      go_wp2_with fail
      with_reducible refine (HP1.out _ HB5.out).mono ?_
      rintro e v6 ⟨hB, ⟨hx, _⟩ | ⟨_, M1, B1, ca1, cs1, hM, hne, rfl, hBl, hk, hat⟩⟩
      · exact absurd (Hok.out.1.symm.trans hx) (by decide)
      have hln : M1.length = g.sorts.length := (by obtain ⟨B, h, rfl⟩ := hM; rw [List.length_map]; exact h.1)
      rw [hln]
      have HM1 := Lib.hid (And.intro hM hat)
      clear hne hat
      have hTv := HT5.out.below hB HT5.out.lt
      have tl := hTv.lt
      have tc := hTv.cell 6
      have tf := hTv.frozen 6
      simp only [List.getElem?_toArray, List.getElem?_cons_zero, List.getElem?_cons_succ] at tc
      obtain ⟨W6, hW6⟩ : ∃ W6, W6 = v6.setCell ⟨T, 6, none⟩ (.slice (some ⟨B1, 0, none⟩) g.sorts.length ca1) := ⟨_, rfl⟩
      have HW6 := Lib.hid hW6
      have HTn : Hid (Blk W6 T 75 #[.slice g.sa g.sorts.length g.sc, .slice g.pa g.prods.length g.pc, .int .i64 g.start, .slice g.fa g.forbid.length g.fc, .slice g.wa g.follow.length g.wc, .slice (some ⟨B0, 0, none⟩) g.sorts.length ca0, .slice (some ⟨B1, 0, none⟩) g.sorts.length ca1, .slice none 0 0, .slice none 0 0, .slice none 0 0, .slice none 0 0, .bool true]) := Lib.hid (by rw [hW6]; exact blk_put hTv _ rfl)
      have HB6 : Hid (Below w.heap.size w W6) := Lib.hid (by rw [hW6]; exact (HB5.out.trans (hB.mono HB5.out.size)).setCell (p := ⟨T, 6, none⟩) hwT _)
      have hgr : v6.grownBy W6 (some T) := by rw [hW6]; exact grown_set v6 T 6 _
      have HG6 := Lib.hid ((HG5.out.below hB HG5.out.lt).kept hgr (by simpa using blk_ne (HG5.out.below hB HG5.out.lt) hTv (by decide)))
      have HR6 := Lib.hid ((HR5.out.below hB HR5.out.lt).kept hgr (by simpa using blk_ne (HR5.out.below hB HR5.out.lt) hTv (by decide)))
      have HK0_6 := Lib.hid ((HK0_5.out.below hB HK0_5.out.lt).kept hgr (by simpa using blk_ne (HK0_5.out.below hB HK0_5.out.lt) hTv (by decide)))
      have HK1_6 := Lib.hid (hk.kept hgr (by simpa using blk_ne hk hTv (by decide)))
      clear hB hM hk hBl hln hTv hgr hW6 c0 c1 c2 c3 c4 l1 r0 r1 r2 l2 HG5 HR5 HB5 HT5 HP1 HK0_5
      have HT6 := HTn
      clear HTn
      go_upto_region 7 with fail
      rw [← HW6.out]
      clear HW6 tl tc tf
      obtain ⟨c0, c1, c2, c3, c4⟩ := cells5s HG6.out
      have l1 := HG6.out.lt
      obtain ⟨r0, r1, r2⟩ := cells3t HR6.out
      have l2 := HR6.out.lt
      go_wp2_with fail
      with_reducible refine (HP2.out _ HB6.out).mono ?_
      rintro e v7 ⟨hB, ⟨hx, _⟩ | ⟨_, M2, B2, ca2, cs2, hM, hne, rfl, hBl, hk, hat⟩⟩
      · exact absurd (Hok.out.1.symm.trans hx) (by decide)
      have hln : M2.length = g.sorts.length := (by obtain ⟨B, h, rfl⟩ := hM; rw [List.length_map]; exact h.1)
      rw [hln]
      have HM2 := Lib.hid (And.intro hM hat)
      clear hne hat
      have hTv := HT6.out.below hB HT6.out.lt
      have tl := hTv.lt
      have tc := hTv.cell 9
      have tf := hTv.frozen 9
      simp only [List.getElem?_toArray, List.getElem?_cons_zero, List.getElem?_cons_succ] at tc
      obtain ⟨W7, hW7⟩ : ∃ W7, W7 = v7.setCell ⟨T, 9, none⟩ (.slice (some ⟨B2, 0, none⟩) g.sorts.length ca2) := ⟨_, rfl⟩
      have HW7 := Lib.hid hW7
      have HTn : Hid (Blk W7 T 75 #[.slice g.sa g.sorts.length g.sc, .slice g.pa g.prods.length g.pc, .int .i64 g.start, .slice g.fa g.forbid.length g.fc, .slice g.wa g.follow.length g.wc, .slice (some ⟨B0, 0, none⟩) g.sorts.length ca0, .slice (some ⟨B1, 0, none⟩) g.sorts.length ca1, .slice none 0 0, .slice none 0 0, .slice (some ⟨B2, 0, none⟩) g.sorts.length ca2, .slice none 0 0, .bool true]) := Lib.hid (by rw [hW7]; exact blk_put hTv _ rfl)
      have HB7 : Hid (Below w.heap.size w W7) := Lib.hid (by rw [hW7]; exact (HB6.out.trans (hB.mono HB6.out.size)).setCell (p := ⟨T, 9, none⟩) hwT _)
      have hgr : v7.grownBy W7 (some T) := by rw [hW7]; exact grown_set v7 T 9 _
      have HG7 := Lib.hid ((HG6.out.below hB HG6.out.lt).kept hgr (by simpa using blk_ne (HG6.out.below hB HG6.out.lt) hTv (by decide)))
      have HR7 := Lib.hid ((HR6.out.below hB HR6.out.lt).kept hgr (by simpa using blk_ne (HR6.out.below hB HR6.out.lt) hTv (by decide)))
      have HK0_7 := Lib.hid ((HK0_6.out.below hB HK0_6.out.lt).kept hgr (by simpa using blk_ne (HK0_6.out.below hB HK0_6.out.lt) hTv (by decide)))
      have HK1_7 := Lib.hid ((HK1_6.out.below hB HK1_6.out.lt).kept hgr (by simpa using blk_ne (HK1_6.out.below hB HK1_6.out.lt) hTv (by decide)))
      have HK2_7 := Lib.hid (hk.kept hgr (by simpa using blk_ne hk hTv (by decide)))
      clear hB hM hk hBl hln hTv hgr hW7 c0 c1 c2 c3 c4 l1 r0 r1 r2 l2 HG6 HR6 HB6 HT6 HP2 HK0_6 HK1_6
      have HT7 := HTn
      clear HTn
      go_upto_region 8 with fail
      rw [← HW7.out]
      clear HW7 tl tc tf
      obtain ⟨c0, c1, c2, c3, c4⟩ := cells5s HG7.out
      have l1 := HG7.out.lt
      obtain ⟨r0, r1, r2⟩ := cells3t HR7.out
      have l2 := HR7.out.lt
      go_wp2_with fail
      with_reducible refine (HP3.out _ HB7.out).mono ?_
      rintro e v8 ⟨hB, ⟨hx, _⟩ | ⟨_, M3, B3, hM, rfl, hBl, hk⟩⟩
      · exact absurd (Hok.out.1.symm.trans hx) (by decide)
      have hln : M3.length = g.sorts.length := hM.1
      rw [hln]
      have HM3 := Lib.hid hM
      have hTv := HT7.out.below hB HT7.out.lt
      have tl := hTv.lt
      have tc := hTv.cell 7
      have tf := hTv.frozen 7
      simp only [List.getElem?_toArray, List.getElem?_cons_zero, List.getElem?_cons_succ] at tc
      obtain ⟨W8, hW8⟩ : ∃ W8, W8 = v8.setCell ⟨T, 7, none⟩ (.slice (some ⟨B3, 0, none⟩) g.sorts.length g.sorts.length) := ⟨_, rfl⟩
      have HW8 := Lib.hid hW8
      have HTn : Hid (Blk W8 T 75 #[.slice g.sa g.sorts.length g.sc, .slice g.pa g.prods.length g.pc, .int .i64 g.start, .slice g.fa g.forbid.length g.fc, .slice g.wa g.follow.length g.wc, .slice (some ⟨B0, 0, none⟩) g.sorts.length ca0, .slice (some ⟨B1, 0, none⟩) g.sorts.length ca1, .slice (some ⟨B3, 0, none⟩) g.sorts.length g.sorts.length, .slice none 0 0, .slice (some ⟨B2, 0, none⟩) g.sorts.length ca2, .slice none 0 0, .bool true]) := Lib.hid (by rw [hW8]; exact blk_put hTv _ rfl)
      have HB8 : Hid (Below w.heap.size w W8) := Lib.hid (by rw [hW8]; exact (HB7.out.trans (hB.mono HB7.out.size)).setCell (p := ⟨T, 7, none⟩) hwT _)
      have hgr : v8.grownBy W8 (some T) := by rw [hW8]; exact grown_set v8 T 7 _
      have HG8 := Lib.hid ((HG7.out.below hB HG7.out.lt).kept hgr (by simpa using blk_ne (HG7.out.below hB HG7.out.lt) hTv (by decide)))
      have HR8 := Lib.hid ((HR7.out.below hB HR7.out.lt).kept hgr (by simpa using blk_ne (HR7.out.below hB HR7.out.lt) hTv (by decide)))
      have HK0_8 := Lib.hid ((HK0_7.out.below hB HK0_7.out.lt).kept hgr (by simpa using blk_ne (HK0_7.out.below hB HK0_7.out.lt) hTv (by decide)))
      have HK1_8 := Lib.hid ((HK1_7.out.below hB HK1_7.out.lt).kept hgr (by simpa using blk_ne (HK1_7.out.below hB HK1_7.out.lt) hTv (by decide)))
      have HK2_8 := Lib.hid ((HK2_7.out.below hB HK2_7.out.lt).kept hgr (by simpa using blk_ne (HK2_7.out.below hB HK2_7.out.lt) hTv (by decide)))
      have HK3_8 := Lib.hid (hk.kept hgr (by simpa using blk_ne hk hTv (by decide)))
      clear hB hM hk hBl hln hTv hgr hW8 c0 c1 c2 c3 c4 l1 r0 r1 r2 l2 HG7 HR7 HB7 HT7 HP3 HK0_7 HK1_7 HK2_7
      have HT8 := HTn
      clear HTn
      go_upto_region 9 with fail
      rw [← HW8.out]
      clear HW8 tl tc tf
      obtain ⟨c0, c1, c2, c3, c4⟩ := cells5s HG8.out
      have l1 := HG8.out.lt
      obtain ⟨r0, r1, r2⟩ := cells3t HR8.out
      have l2 := HR8.out.lt
      go_wp2_with fail
      with_reducible refine (HP4.out _ HB8.out).mono ?_
      rintro e v9 ⟨hB, ⟨hx, _⟩ | ⟨_, M4, B4, hM, rfl, hBl, hk⟩⟩
      · exact absurd (Hok.out.1.symm.trans hx) (by decide)
      have hln : M4.length = g.sorts.length := hM.1
      rw [hln]
      have HM4 := Lib.hid hM
      have hTv := HT8.out.below hB HT8.out.lt
      have tl := hTv.lt
      have tc := hTv.cell 8
      have tf := hTv.frozen 8
      simp only [List.getElem?_toArray, List.getElem?_cons_zero, List.getElem?_cons_succ] at tc
      obtain ⟨W9, hW9⟩ : ∃ W9, W9 = v9.setCell ⟨T, 8, none⟩ (.slice (some ⟨B4, 0, none⟩) g.sorts.length g.sorts.length) := ⟨_, rfl⟩
      have HW9 := Lib.hid hW9
      have HTn : Hid (Blk W9 T 75 #[.slice g.sa g.sorts.length g.sc, .slice g.pa g.prods.length g.pc, .int .i64 g.start, .slice g.fa g.forbid.length g.fc, .slice g.wa g.follow.length g.wc, .slice (some ⟨B0, 0, none⟩) g.sorts.length ca0, .slice (some ⟨B1, 0, none⟩) g.sorts.length ca1, .slice (some ⟨B3, 0, none⟩) g.sorts.length g.sorts.length, .slice (some ⟨B4, 0, none⟩) g.sorts.length g.sorts.length, .slice (some ⟨B2, 0, none⟩) g.sorts.length ca2, .slice none 0 0, .bool true]) := Lib.hid (by rw [hW9]; exact blk_put hTv _ rfl)
      have HB9 : Hid (Below w.heap.size w W9) := Lib.hid (by rw [hW9]; exact (HB8.out.trans (hB.mono HB8.out.size)).setCell (p := ⟨T, 8, none⟩) hwT _)
      have hgr : v9.grownBy W9 (some T) := by rw [hW9]; exact grown_set v9 T 8 _
      have HG9 := Lib.hid ((HG8.out.below hB HG8.out.lt).kept hgr (by simpa using blk_ne (HG8.out.below hB HG8.out.lt) hTv (by decide)))
      have HR9 := Lib.hid ((HR8.out.below hB HR8.out.lt).kept hgr (by simpa using blk_ne (HR8.out.below hB HR8.out.lt) hTv (by decide)))
      have HK0_9 := Lib.hid ((HK0_8.out.below hB HK0_8.out.lt).kept hgr (by simpa using blk_ne (HK0_8.out.below hB HK0_8.out.lt) hTv (by decide)))
      have HK1_9 := Lib.hid ((HK1_8.out.below hB HK1_8.out.lt).kept hgr (by simpa using blk_ne (HK1_8.out.below hB HK1_8.out.lt) hTv (by decide)))
      have HK2_9 := Lib.hid ((HK2_8.out.below hB HK2_8.out.lt).kept hgr (by simpa using blk_ne (HK2_8.out.below hB HK2_8.out.lt) hTv (by decide)))
      have HK3_9 := Lib.hid ((HK3_8.out.below hB HK3_8.out.lt).kept hgr (by simpa using blk_ne (HK3_8.out.below hB HK3_8.out.lt) hTv (by decide)))
      have HK4_9 := Lib.hid (hk.kept hgr (by simpa using blk_ne hk hTv (by decide)))
      clear hB hM hk hBl hln hTv hgr hW9 c0 c1 c2 c3 c4 l1 r0 r1 r2 l2 HG8 HR8 HB8 HT8 HP4 HK0_8 HK1_8 HK2_8 HK3_8
      have HT9 := HTn
      clear HTn
      go_upto_region 10 with fail
      rw [← HW9.out]
      clear HW9 tl tc tf
      obtain ⟨c0, c1, c2, c3, c4⟩ := cells5s HG9.out
      have l1 := HG9.out.lt
      obtain ⟨r0, r1, r2⟩ := cells3t HR9.out
      have l2 := HR9.out.lt
      go_wp2_with fail
      with_reducible refine (HP5.out _ HB9.out).mono ?_
      rintro e v10 ⟨hB, ⟨hx, _⟩ | ⟨_, M5, B5, ca5, hM, rfl, hBl, hk⟩⟩
      · exact absurd (Hok.out.1.symm.trans hx) (by decide)
      have hln : M5.length = g.sorts.length := hM.1
      rw [hln]
      have HM5 := Lib.hid hM
      have hTv := HT9.out.below hB HT9.out.lt
      have tl := hTv.lt
      have tc := hTv.cell 10
      have tf := hTv.frozen 10
      simp only [List.getElem?_toArray, List.getElem?_cons_zero, List.getElem?_cons_succ] at tc
      obtain ⟨W10, hW10⟩ : ∃ W10, W10 = v10.setCell ⟨T, 10, none⟩ (.slice (some ⟨B5, 0, none⟩) g.sorts.length ca5) := ⟨_, rfl⟩
      have HW10 := Lib.hid hW10
      have HTn : Hid (Blk W10 T 75 #[.slice g.sa g.sorts.length g.sc, .slice g.pa g.prods.length g.pc, .int .i64 g.start, .slice g.fa g.forbid.length g.fc, .slice g.wa g.follow.length g.wc, .slice (some ⟨B0, 0, none⟩) g.sorts.length ca0, .slice (some ⟨B1, 0, none⟩) g.sorts.length ca1, .slice (some ⟨B3, 0, none⟩) g.sorts.length g.sorts.length, .slice (some ⟨B4, 0, none⟩) g.sorts.length g.sorts.length, .slice (some ⟨B2, 0, none⟩) g.sorts.length ca2, .slice (some ⟨B5, 0, none⟩) g.sorts.length ca5, .bool true]) := Lib.hid (by rw [hW10]; exact blk_put hTv _ rfl)
      have HB10 : Hid (Below w.heap.size w W10) := Lib.hid (by rw [hW10]; exact (HB9.out.trans (hB.mono HB9.out.size)).setCell (p := ⟨T, 10, none⟩) hwT _)
      have hgr : v10.grownBy W10 (some T) := by rw [hW10]; exact grown_set v10 T 10 _
      have HG10 := Lib.hid ((HG9.out.below hB HG9.out.lt).kept hgr (by simpa using blk_ne (HG9.out.below hB HG9.out.lt) hTv (by decide)))
      have HR10 := Lib.hid ((HR9.out.below hB HR9.out.lt).kept hgr (by simpa using blk_ne (HR9.out.below hB HR9.out.lt) hTv (by decide)))
      have HK0_10 := Lib.hid ((HK0_9.out.below hB HK0_9.out.lt).kept hgr (by simpa using blk_ne (HK0_9.out.below hB HK0_9.out.lt) hTv (by decide)))
      have HK1_10 := Lib.hid ((HK1_9.out.below hB HK1_9.out.lt).kept hgr (by simpa using blk_ne (HK1_9.out.below hB HK1_9.out.lt) hTv (by decide)))
      have HK2_10 := Lib.hid ((HK2_9.out.below hB HK2_9.out.lt).kept hgr (by simpa using blk_ne (HK2_9.out.below hB HK2_9.out.lt) hTv (by decide)))
      have HK3_10 := Lib.hid ((HK3_9.out.below hB HK3_9.out.lt).kept hgr (by simpa using blk_ne (HK3_9.out.below hB HK3_9.out.lt) hTv (by decide)))
      have HK4_10 := Lib.hid ((HK4_9.out.below hB HK4_9.out.lt).kept hgr (by simpa using blk_ne (HK4_9.out.below hB HK4_9.out.lt) hTv (by decide)))
      have hneT : B5 ≠ T := by have := HT9.out.lt; omega
      have HK5_10 := Lib.hid (row_kept hk hgr hneT)
      clear hB hM hk hBl hln hTv hgr hW10 c0 c1 c2 c3 c4 l1 r0 r1 r2 l2 HG9 HR9 HB9 HT9 HP5 HK0_9 HK1_9 HK2_9 HK3_9 HK4_9
      have HT10 := HTn
      clear HTn
      go_upto_region 11 with fail
      rw [← HW10.out]
      clear HW10 tl tc tf
      obtain ⟨c0, c1, c2, c3, c4⟩ := cells5s HG10.out
      have l1 := HG10.out.lt
      obtain ⟨r0, r1, r2⟩ := cells3t HR10.out
      have l2 := HR10.out.lt
      have t5 := HT10.out.cell 5
      have t6 := HT10.out.cell 6
      have t7 := HT10.out.cell 7
      have t8 := HT10.out.cell 8
      have t9 := HT10.out.cell 9
      have t10 := HT10.out.cell 10
      have tl := HT10.out.lt
      simp only [List.getElem?_toArray, List.getElem?_cons_zero, List.getElem?_cons_succ] at t5 t6 t7 t8 t9 t10
      go_wp2_with fail
      with_reducible refine (HEr.out _ _).mono ?_
      rintro e w' ⟨rfl, rfl⟩
      go_wp2_with fail
      with_reducible refine (HEr.out _ _).mono ?_
      rintro e w' ⟨rfl, rfl⟩
      go_wp2_with fail
      with_reducible refine (HEr.out _ _).mono ?_
      rintro e w' ⟨rfl, rfl⟩
      go_wp2_with fail
      with_reducible refine (HEr.out _ _).mono ?_
      rintro e w' ⟨rfl, rfl⟩
      go_wp2_with fail
      with_reducible refine (HEr.out _ _).mono ?_
      rintro e w' ⟨rfl, rfl⟩
      go_wp2_with fail
      with_reducible refine (HEr.out _ _).mono ?_
      rintro e w' ⟨rfl, rfl⟩
      obtain ⟨VV, hVV⟩ : ∃ VV, VV = W10 := ⟨_, rfl⟩
      have HVV := Lib.hid hVV
      have hBd : Below W10.heap.size W10 VV := by rw [hVV]; exact Below.refl _ _
      have HT11 := Lib.hid (HT10.out.below hBd HT10.out.lt)
      have HG11 := Lib.hid (HG10.out.below hBd HG10.out.lt)
      have HR11 := Lib.hid (HR10.out.below hBd HR10.out.lt)
      have HB11 := Lib.hid (HB10.out.trans (hBd.mono HB10.out.size))
      have HK0 := Lib.hid (HK0_10.out.below hBd HK0_10.out.lt)
      have HK1 := Lib.hid (HK1_10.out.below hBd HK1_10.out.lt)
      have HK2 := Lib.hid (HK2_10.out.below hBd HK2_10.out.lt)
      have HK3 := Lib.hid (HK3_10.out.below hBd HK3_10.out.lt)
      have HK4 := Lib.hid (HK4_10.out.below hBd HK4_10.out.lt)
      have hneT : B5 ≠ T := hneT
      have HK5 := Lib.hid (row_kept HK5_10.out (grown_below hBd (some T)) hneT)
      clear hBd hVV c0 c1 c2 c3 c4 l1 HT10 HG10 HR10 HB10 HK0_10 HK1_10 HK2_10 HK3_10 HK4_10 HK5_10
      have HY : Hid (∀ W (hW : Below w.heap.size w W), Calls Tryz.prog 36 #[.agg #[.int .i64 p, .int .u8 b, .slice ka kids.length kc]] W fun e w' => e = .returned (.tuple #[.string (strOfNums (yieldL 16384 tt)), .int .i64 0]) ∧ Below W.heap.size W w') := Lib.hid (fun W hW => by
        have h := HYi2.out (HFt.out 16384) (by have := HYl.out; omega) W hW
        rw [if_pos Hok.out.2.1] at h
        exact h)
      obtain ⟨tx, htx⟩ : ∃ tx, tx = strOfNums (yieldL 16384 tt) := ⟨_, rfl⟩
      have HTx := Lib.hid htx
      rw [← htx] at HY
      clear htx HYi2
      go_wp2_with fail
      rw [← HVV.out]
      with_reducible refine (HY.out _ HB11.out).mono ?_
      rintro e w8 ⟨rfl, hB8⟩
      have HT12 := Lib.hid (HT11.out.below hB8 HT11.out.lt)
      have HG12 := Lib.hid (HG11.out.below hB8 HG11.out.lt)
      have HR12 := Lib.hid (HR11.out.below hB8 HR11.out.lt)
      have HB12 := Lib.hid (HB11.out.trans (hB8.mono HB11.out.size))
      have HL0 := Lib.hid (HK0.out.below hB8 HK0.out.lt)
      have HL1 := Lib.hid (HK1.out.below hB8 HK1.out.lt)
      have HL2 := Lib.hid (HK2.out.below hB8 HK2.out.lt)
      have HL3 := Lib.hid (HK3.out.below hB8 HK3.out.lt)
      have HL4 := Lib.hid (HK4.out.below hB8 HK4.out.lt)
      have HL5 := Lib.hid (row_kept HK5.out (grown_below hB8 (some T)) hneT)
      clear hB8 r0 r1 r2 l2 t5 t6 t7 t8 t9 t10 tl HVV HT11 HG11 HR11 HB11 HK0 HK1 HK2 HK3 HK4 HK5 HY
      have hok := Hok.out
      have htt := HTT.out
      have hm := mayB_of hok.1
      have hs := maySet_of hok.1
      have htb := hok.2.2
      rw [htt] at htb
      obtain ⟨m, x, hpm, hx, hr, hl, hks⟩ := treeB_out (d := 16383) htb
      subst hpm
      have hxm := List.mem_of_getElem? hx
      have htxx := tree_tx hm 16384 tt hok.2.2 hok.2.1 (HFt.out 16384) x (by rw [htt]; show g.prods[((m : Nat) : Int).toNat]? = some x; rw [Int.toNat_natCast]; exact hx)
      obtain ⟨b1, o1, e1', hb1, hc1, _⟩ := HIn.out.1.prods m x hx
      have HGH : Hid (∀ whole : Bool, (whole = true → x.left = g.start) → GoesH g 16384 tt tx.data.toList 0 whole []) := Lib.hid (fun whole hw => ⟨Nat.zero_le _, by rw [HTx.out, text_nums, List.drop_zero, List.append_nil], hok.2.1, HFt.out 16384, .inr ⟨hok.2.2, fun h y hy => by
        rw [htt] at hy
        have hy : g.prods[((m : Nat) : Int).toNat]? = some y := hy
        rw [Int.toNat_natCast, hx] at hy
        cases hy
        rw [hw h]
        exact Ctx.start ⟨_, by rw [← hw h]; exact htxx⟩⟩⟩)
      have HTld : Hid (ToldL g M0 M1 M3 M4 M2 M5 ∧ MayB g ∧ MaySet g) := Lib.hid ⟨⟨HM0.out.1, HM1.out.1, HM3.out, HM4.out, HM2.out.1, HM5.out⟩, hm, hs⟩
      have htxs : tx.size ≤ 1048576 := by
        have h1 := HYl.out
        rw [HTx.out]
        unfold strOfNums ByteArray.size
        simp
        omega
      have hmn : (m : Int) < (g.prods.length : Int) := by have := (List.getElem?_eq_some_iff.1 hx).1; omega
      have hm0 : (0 : Int) ≤ (m : Int) := by omega
      have HCx := Lib.hid hc1
      obtain ⟨xl, hxl⟩ : ∃ xl, xl = x.left := ⟨_, rfl⟩
      have HXl := Lib.hid hxl
      clear hok htt hm hs htb hx hr hl hks hxm htxx hc1 hxl
      go_wp2
      refine wp_region_still_tail 13 (by kernel_rfl) (by kernel_rfl) ?_
      show wpStill _ _ (World.drew w8) _ _ _
      obtain ⟨V, hV⟩ : ∃ V, V = World.drew w8 := ⟨_, rfl⟩
      have HV := Lib.hid hV
      rw [← hV]
      have hBd : Below w8.heap.size w8 V := by rw [hV]; exact (Below.refl _ _).drew
      have HT13 := Lib.hid (HT12.out.below hBd HT12.out.lt)
      have HG13 := Lib.hid (HG12.out.below hBd HG12.out.lt)
      have HR13 := Lib.hid (HR12.out.below hBd HR12.out.lt)
      have HB13 := Lib.hid (HB12.out.trans (hBd.mono HB12.out.size))
      have HTW : Hid (TW ⟨g, T, B0, B1, B3, B4, B2, B5, ca0, ca1, ca2, ca5, cs0, cs1, cs2, M0, M1, M3, M4, M2, M5⟩ w V) := Lib.hid ⟨HT13.out, HL0.out.below hBd HL0.out.lt, HL1.out.below hBd HL1.out.lt, HL3.out.below hBd HL3.out.lt, HL4.out.below hBd HL4.out.lt, HL2.out.below hBd HL2.out.lt, row_kept HL5.out (grown_below hBd (some T)) hneT, HB13.out, hwT, hneT⟩
      clear hV hBd HT12 HG12 HR12 HB12 HL0 HL1 HL2 HL3 HL4 HL5
      obtain ⟨c0, c1, c2, c3, c4⟩ := cells5s HG13.out
      have l1 := HG13.out.lt
      rw [e1'] at c1
      obtain ⟨r0, r1, r2⟩ := cells3t HR13.out
      have l2 := HR13.out.lt
      have x0 := (Prod_at (HCx.out.below HB13.out hb1)).1
      rw [← HXl.out] at x0
      have hb1' := Nat.lt_of_lt_of_le hb1 HB13.out.size
      simp only [List.take_succ_cons, List.take_zero, List.drop_succ_cons, List.drop_zero]
      repeat still_step
      refine wpStill_nil ?_
      show wpList _ _ _ _ _ (World.drew w8)
      rw [← HV.out]
      clear HV c0 c1 c2 c3 c4 l1 r0 r1 r2 l2 x0 hb1'
      have HGo2 := Lib.hid (HGo.out ⟨g, T, B0, B1, B3, B4, B2, B5, ca0, ca1, ca2, ca5, cs0, cs1, cs2, M0, M1, M3, M4, M2, M5⟩ V V tx (xl == g.start) htxs HTld.out.2.1 HTld.out.2.2 HTld.out.1 HM0.out.2 HM1.out.2 HM2.out.2 HIn.out.1 HIn.out.2 HTW.out (HGH.out _ (fun h => by rw [← HXl.out]; simpa using h)))
      unfold GoesPost TD.cells at HGo2
      dsimp only at HGo2
      clear HGo HGH HTld
      go_wp2_with fail
      with_reducible refine HGo2.out.mono ?_
      rintro e w9 ⟨rfl, hg9, ht9⟩
      have HB14 : Hid (Below w.heap.size w w9) := Lib.hid (HB13.out.grown hg9 HB13.out.size (fun k e => by cases e; exact hwT))
      have tok := ht9.cell 11
      simp only [List.getElem?_toArray, List.getElem?_cons_zero, List.getElem?_cons_succ] at tok
      have tl := ht9.lt
      clear hg9 ht9 HGo2 HTW HT13 HG13 HR13 HB13
      go_wp2_with fail
      with_reducible refine (HEr.out _ _).mono ?_
      rintro e w' ⟨rfl, rfl⟩
      go_wp2_with fail
      with_reducible refine (HWk.out _ HB14.out).mono ?_
      rintro e w10 ⟨rfl, hB⟩
      have HBz := Lib.hid (HB14.out.trans (hB.mono HB14.out.size))
      clear hB
      go_wp2
      go_ret
      exact ⟨rfl, HBz.out⟩
theorem lawTrees_any (g : GramM) (t : TreeM) (w : World) (hg : AGram w g) (ht : TreeIn w t) (hta : ∀ d, ATree w d t) (hT : TabAt 1 Lib.deBruijn64tab w) : Calls Tryz.prog 7 #[gramV g, treeV t] w fun e w' => e = .returned (.bool true) ∧ Below w.heap.size w w' := by
  cases hv : vast8 g with
  | true => exact lawTrees_vast g t w hg hT hv
  | false => exact lawTrees_fit g t w hg ht hta hT hv
end Go.Proofs.YtodnlcbnbkkanaaGreatDoor
end
section
namespace Go.Proofs.YtodnlcbnbkkanaaGreatDoor
open Go.ChangeShapes Go.WideShapes Go.ChangeAt Go.RowKit

theorem gTab : Tryz.prog.globalNamed "math/bits.deBruijn64tab" = some 1 := by kernel_rfl
theorem gTabType : (Tryz.prog.globals[1]?).map (·.type) = some 222 := by kernel_rfl
theorem cellsTab : Tryz.prog.cellsOf 222 = 64 := by kernel_rfl
theorem cells5b : Tryz.prog.cellsOf 5 = 1 := by kernel_rfl

theorem tab_datum {H : Type} : (Rows.laid_math_bits_deBruijn64tab : DataW H) = Lib.tabData .u8 (Lib.deBruijn64tab.map fun n : Nat => (n : Int)) := rfl

theorem own : ownKnob Tryz.prog.godebug = none := by kernel_rfl

set_option maxRecDepth 100000 in
theorem glob_of_laid {W : World} (h : laidMetH Tryz.prog Rows.factsSortsRow.laid W) : TabAt 1 Lib.deBruijn64tab W := by
  have hp : laidMet Tryz.prog Rows.factsSortsRow.laid W := h
  obtain ⟨g, t, cs, fuel, p, hg, ht, hv, hd⟩ := Lib.laidMet.reads hp (.head _)
  obtain rfl := Option.some.inj (gTab.symm.trans hg)
  obtain rfl := Option.some.inj (gTabType.symm.trans ht)
  rw [tab_datum] at hd
  have hcs := Lib.cells_of_tab Tryz.underlying222 Tryz.underlying5 cells5b cellsTab hd
  intro j hj
  have := World.var?_cell hg hv j
  rw [this]
  have e : cs[j]? = cs.toList[j]? := by simp
  rw [e, hcs]
  simp [hj]

theorem door_met (os : Os) (args : Array Value) : laidMetH Tryz.prog Rows.factsSortsRow.laid ((World.doorLaid Tryz.prog 65 os).forCall (fun _ _ => 0) ⟨#[], args, []⟩).memory :=
  laidMetH_of_parts3 (fuel := 8) (laidMet_of_run' 8 (by kernel_rfl) (by kernel_rfl)) (by kernel_rfl) (by kernel_rfl)
end Go.Proofs.YtodnlcbnbkkanaaGreatDoor
end
