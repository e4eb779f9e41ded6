import Derived.RangeFuncBox
import Derived.Lib.TrailingZeros
import Derived.Laws.Bits64b
import Derived.Shelf.Abstract
import Derived.Shelf.RegionOpen
import Derived.OwnWalkIn
import Derived.TacticsInMore
import Derived.LoopNIn
import Derived.LoopIn
import Derived.Shelf.Spec.SlicesInsert
import Derived.Lib.AppendZerosOnto
import Derived.Laws.NewBlocks
import Derived.Test.YtodnlcbnbkkanaaGreatDoorS1
import Derived.Test.YtodnlcbnbkkanaaGreatDoorS7
section
namespace Go.Proofs.YtodnlcbnbkkanaaGreatDoor
open Go Go.RowKit

set_option maxRecDepth 100000 in
set_option maxHeartbeats 1000000 in
theorem whole_ba (s : ByteArray) (w : World) (hl : s.size ≤ 9223372036854775807) :
  Calls Tryz.prog 140 #[.string s] w fun e w' => e = .returned (.pointer (some ⟨w.heap.size, 0, none⟩)) ∧ w' = w.alloc (.cells #[.int .i64 s.size, .string s, .slice none 0 0] 192) := by
 obtain ⟨n, hn⟩ : ∃ n, n = s.size := ⟨_, rfl⟩
 have hs := hn.symm
 rw [← hn] at hl ⊢
 clear hn
 go_enter Tryz.func140, Tryz.ntmps140
 go_wp2
 go_ret
 exact ⟨rfl, rfl⟩
theorem Tryz.info129e : (Tryz.prog.info? 133).map (fun i => (i.zero, i.size, i.bytes)) = some (some (.pointer none), 1, 8) := by kernel_rfl
def LeavesAt (W : World) (a : Option Addr) (ts : List (List UInt8)) : Prop := ∀ (i : Nat) (t : List UInt8), ts[i]? = some t → ∃ g off b, a = some ⟨g, off, none⟩ ∧ g < W.heap.size ∧ W.cell? ⟨g, off + i, none⟩ = some (.pointer (some ⟨b, 0, none⟩)) ∧ Leaf W b t
def JoinSt (w : World) (u : List UInt8) (W : World) : Prop :=
 Below w.heap.size w W ∧
 ((u = [] ∧ Blk W w.heap.size 192 #[.int .i64 0, .string ⟨#[]⟩, .slice none 0 0]) ∨
  (u ≠ [] ∧ ∃ G X cap cs, Blk W w.heap.size 192 #[.int .i64 u.length, .string ⟨#[]⟩, .slice (some ⟨G, 0, none⟩) 1 cap] ∧ Blk W G 133 cs ∧ cs[0]? = some (.pointer (some ⟨X, 0, none⟩)) ∧ Leaf W X u ∧ w.heap.size < G ∧ X ≠ w.heap.size))
def JoinMid (w : World) (u : List UInt8) (m : Int) (W : World) : Prop :=
 Below w.heap.size w W ∧
 ((u = [] ∧ Blk W w.heap.size 192 #[.int .i64 m, .string ⟨#[]⟩, .slice none 0 0]) ∨
  (u ≠ [] ∧ ∃ G X cap cs, Blk W w.heap.size 192 #[.int .i64 m, .string ⟨#[]⟩, .slice (some ⟨G, 0, none⟩) 1 cap] ∧ Blk W G 133 cs ∧ cs[0]? = some (.pointer (some ⟨X, 0, none⟩)) ∧ Leaf W X u ∧ w.heap.size < G ∧ X ≠ w.heap.size))

set_option maxRecDepth 100000 in
set_option maxHeartbeats 8000000 in
theorem join_leaves (a : Option Addr) (c : Nat) (ts : List (List UInt8)) (w : World) (ha : LeavesAt w a ts) (hn : ts.length ≤ 281474976710656) (ht : ts.flatten.length ≤ 4096) :
  Calls Tryz.prog 141 #[.slice a ts.length c] w fun e w' => ∃ b, e = .returned (.pointer (some ⟨b, 0, none⟩)) ∧ Leaf w' b ts.flatten ∧ Below w.heap.size w w' := by
 obtain ⟨i133, ti, tz, tis, tb⟩ := info_parts Tryz.info129e
 have HA := Lib.hid ha
 have HT := Lib.hid ht
 obtain ⟨n, hnn⟩ : ∃ n, n = ts.length := ⟨_, rfl⟩
 have HN := Lib.hid hnn
 rw [← hnn] at hn ⊢
 have HS0 : Hid (JoinSt w [] (w.alloc (.cells #[.int .i64 0, .string ⟨#[]⟩, .slice none 0 0] 192))) := Lib.hid ⟨(Below.refl _ _).alloc (Nat.le_refl _) _, .inl ⟨rfl, Blk.new w 192 _⟩⟩
 clear ha ht hnn
 go_enter Tryz.func141, Tryz.ntmps141
 go_wp2
 go_loopw [11] (fun vj wr => ∃ j : Nat, vj = .int .i64 j ∧ j ≤ n ∧ Hid (JoinSt w (ts.take j).flatten wr)) (fun vj _ => n - (intOf vj).toNat)
 case atStart => exact ⟨0, rfl, Nat.zero_le _, HS0⟩
 case round =>
  clear HS0
  obtain ⟨j, rfl, hj, K⟩ := hrel
  by_cases hlt : j < n
  ·obtain ⟨t, hts⟩ : ∃ t, ts[j]? = some t := ⟨_, List.getElem?_eq_getElem (by rw [← HN.out]; exact hlt)⟩
   obtain ⟨g, off, b, rfl, hg, hcell, hleaf⟩ := HA.out j t hts
   have hcell := (K.out.1.cell (p := ⟨g, off + j, none⟩) hg).trans hcell
   have hg' := Nat.lt_of_lt_of_le hg K.out.1.size
   have hbl := Blk.lt hleaf
   have hleaf := Blk.below (show Blk w b 192 _ from hleaf) K.out.1 hbl
   have p0 := hleaf.cell 0
   have p1 := hleaf.cell 1
   have lp := hleaf.lt
   have hfl : (ts.take (j + 1)).flatten = (ts.take j).flatten ++ t := by rw [take_snoc ts j t hts, List.flatten_append]; simp
   have hle : (ts.take j).flatten.length + t.length ≤ 4096 := by
    have h1 : ((ts.take (j + 1)).flatten ++ (ts.drop (j + 1)).flatten).length = ts.flatten.length := by rw [← List.flatten_append, List.take_append_drop]
    rw [List.length_append, hfl, List.length_append] at h1
    have := HT.out
    omega
   have z1 : (j : Int) < (n : Int) := by omega
   have z0 : (0 : Int) ≤ (j : Int) := by omega
   have HFl := Lib.hid hfl
   obtain ⟨u, hu⟩ : ∃ u, u = (ts.take j).flatten := ⟨_, rfl⟩
   rw [← hu] at K HFl hle
   obtain ⟨q, hq⟩ : ∃ q, q = t.length := ⟨_, rfl⟩
   have Hq := Lib.hid hq
   obtain ⟨m, hm⟩ : ∃ m, m = u.length := ⟨_, rfl⟩
   have Hm := Lib.hid hm
   rw [← hq] at p0 hle
   rw [← hm] at hle
   have HLf := Lib.hid hleaf
   obtain ⟨st, hst⟩ : ∃ st, st = bs t := ⟨_, rfl⟩
   have HSt := Lib.hid hst
   rw [← hst] at p1
   have hbO : b ≠ w.heap.size := by omega
   have hw : IntKind.i64.wrap ((m : Int) + (q : Int)) = (m : Int) + (q : Int) := IntWalk.i64_in _ (by omega)
   clear hleaf hfl hu hq hm hts hst
   have hneg : IntKind.i64.wrap ((0 : Int) - 1) = -1 := by decide
   have hone : IntKind.i64.wrap ((1 : Int) - 1) = 0 := by decide
   by_cases ht0 : q = 0
   ·have htn : t = [] := List.length_eq_zero_iff.1 (by have := Hq.out; omega)
    have Htn := Lib.hid htn
    have hq1 : ((q : Int) == 0) = true := by simp [ht0]
    have KP : Hid (Blk wr b 192 #[.int .i64 (q : Int), .string st, .slice none 0 0]) := Lib.hid (by rw [Hq.out, HSt.out]; exact HLf.out)
    have Ht0 := Lib.hid ht0
    clear htn ht0
    obtain ⟨hB, ⟨hu0, hO⟩ | ⟨hu0, G, X, cap, cs, hO, hG, hc, hX, hGl, hXO⟩⟩ := K.out
    ·have KO : Hid (Blk wr w.heap.size 192 #[.int .i64 (m : Int), .string ⟨#[]⟩, .slice none 0 0]) := Lib.hid (by rw [show (m : Int) = 0 by have := Hm.out; rw [hu0] at this; simp at this; omega]; exact hO)
     have KZ : Hid (∀ V, V = World.drew wr → JoinSt w (ts.take (j + 1)).flatten (V.setCell ⟨w.heap.size, 0, none⟩ (.int .i64 ((m : Int) + (q : Int))))) := Lib.hid fun V hV => by
      rw [HFl.out, Htn.out, List.append_nil, hV]
      refine ⟨hB.drew.setCell (p := ⟨w.heap.size, 0, none⟩) (Nat.le_refl _) _, .inl ⟨hu0, ?_⟩⟩
      have := (hO.drew).set 0 (.int .i64 ((m : Int) + (q : Int)))
      have e1 : m = 0 := by have h := Hm.out; rw [hu0] at h; exact h
      have e2 := Ht0.out
      rw [show ((m : Int) + (q : Int)) = 0 by omega] at this ⊢
      exact this
     have c0 := KO.out.cell 0
     have c2 := KO.out.cell 2
     have lO := KO.out.lt
     clear K hB hO
     go_wp2
     refine wp_region_still_tail 9 (by kernel_rfl) (by kernel_rfl) ?_
     show wpStill _ _ (World.drew wr) _ _ _
     obtain ⟨V, hV⟩ : ∃ V, V = World.drew wr := ⟨_, rfl⟩
     have HV := Lib.hid hV
     rw [← hV]
     have KOV := KO.out.below (Below.refl _ wr).drew KO.out.lt
     rw [← hV] at KOV
     have KPV := KP.out.below (Below.refl _ wr).drew KP.out.lt
     rw [← hV] at KPV
     have v0 := KOV.cell 0
     have v1 := KPV.cell 0
     have vl0 := KOV.lt
     have vl1 := KPV.lt
     have vf := KOV.frozen 0
     have HZV := Lib.hid (KZ.out V hV)
     clear hV KOV KPV KO KP KZ
     simp only [List.take_succ_cons, List.take_zero, List.drop_succ_cons, List.drop_zero]
     repeat still_step
     refine wpStill_nil ?_
     show wpList _ _ _ _ _ (World.drew wr)
     rw [← HV.out]
     clear HV
     go_wp2
     go_roundw
     case rel => exact ⟨j + 1, by go_num, by omega, HZV⟩
     case measure => simp [intOf]; omega
    ·have KO : Hid (Blk wr w.heap.size 192 #[.int .i64 (m : Int), .string ⟨#[]⟩, .slice (some ⟨G, 0, none⟩) 1 cap]) := Lib.hid (by rw [Hm.out]; exact hO)
     have KZ : Hid (∀ V, V = World.drew wr → JoinSt w (ts.take (j + 1)).flatten (V.setCell ⟨w.heap.size, 0, none⟩ (.int .i64 ((m : Int) + (q : Int))))) := Lib.hid fun V hV => by
      rw [HFl.out, Htn.out, List.append_nil, hV]
      refine ⟨hB.drew.setCell (p := ⟨w.heap.size, 0, none⟩) (Nat.le_refl _) _, .inr ⟨hu0, G, X, cap, cs, ?_, (hG.drew).other (by show G ≠ w.heap.size; omega) _, hc, (Blk.drew hX).other (by show X ≠ w.heap.size; exact hXO) _, hGl, hXO⟩⟩
      have := (hO.drew).set 0 (.int .i64 ((m : Int) + (q : Int)))
      rw [show ((m : Int) + (q : Int)) = (u.length : Int) by have := Hm.out; have := Ht0.out; omega] at this ⊢
      exact this
     have c0 := KO.out.cell 0
     have c2 := KO.out.cell 2
     have lO := KO.out.lt
     clear K hB hO
     go_wp2
     refine wp_region_still_tail 9 (by kernel_rfl) (by kernel_rfl) ?_
     show wpStill _ _ (World.drew wr) _ _ _
     obtain ⟨V, hV⟩ : ∃ V, V = World.drew wr := ⟨_, rfl⟩
     have HV := Lib.hid hV
     rw [← hV]
     have KOV := KO.out.below (Below.refl _ wr).drew KO.out.lt
     rw [← hV] at KOV
     have KPV := KP.out.below (Below.refl _ wr).drew KP.out.lt
     rw [← hV] at KPV
     have v0 := KOV.cell 0
     have v1 := KPV.cell 0
     have vl0 := KOV.lt
     have vl1 := KPV.lt
     have vf := KOV.frozen 0
     have HZV := Lib.hid (KZ.out V hV)
     clear hV KOV KPV KO KP KZ
     simp only [List.take_succ_cons, List.take_zero, List.drop_succ_cons, List.drop_zero]
     repeat still_step
     refine wpStill_nil ?_
     show wpList _ _ _ _ _ (World.drew wr)
     rw [← HV.out]
     clear HV
     go_wp2
     go_roundw
     case rel => exact ⟨j + 1, by go_num, by omega, HZV⟩
     case measure => simp [intOf]; omega
   ·have hq1 : ((q : Int) == 0) = false := by simp [ht0]
    have htn : t ≠ [] := fun h => ht0 (by rw [Hq.out, h]; rfl)
    have Htn := Lib.hid htn
    have Ht0 := Lib.hid ht0
    clear htn ht0
    obtain ⟨hB, ⟨hu0, hO⟩ | ⟨hu0, G, X, cap, cs, hO, hG, hc, hX, hGl, hXO⟩⟩ := K.out
    ·have hm0 : (m : Int) = 0 := by have := Hm.out; rw [hu0] at this; simp at this; omega
     have KO0 : Hid (Blk wr w.heap.size 192 #[.int .i64 (m : Int), .string ⟨#[]⟩, .slice none 0 0]) := Lib.hid (by rw [hm0]; exact hO)
     have c0 := KO0.out.cell 0
     have c2 := KO0.out.cell 2
     have lO := KO0.out.lt
     have HBr := Lib.hid hB
     have Hm0 := Lib.hid hm0
     have Hu0 := Lib.hid hu0
     clear K hB hO hm0 hu0
     go_wp2
     go_quiet (fail)
     obtain ⟨W2, hW2⟩ : ∃ W2, W2 = wr.drewN nq := ⟨_, rfl⟩
     rw [← hW2]
     have hB2 : Below w.heap.size w W2 := by rw [hW2]; exact below_drewN HBr.out _
     have hO2 : Blk W2 w.heap.size 192 #[.int .i64 (m : Int), .string ⟨#[]⟩, .slice none 0 0] := by rw [hW2]; exact KO0.out
     have hP2 : Blk W2 b 192 #[.int .i64 (q : Int), .string st, .slice none 0 0] := by rw [hW2, Hq.out, HSt.out]; exact HLf.out
     clear hW2 c0 c2 lO p0 p1 lp hcell
     have c0 := hO2.cell 0
     have c2 := hO2.cell 2
     have lO := hO2.lt
     have HO3 := Lib.hid (hO2.alloc (.cells #[.pointer (some ⟨b, 0, none⟩)] 133))
     have HP3 := Lib.hid (hP2.alloc (.cells #[.pointer (some ⟨b, 0, none⟩)] 133))
     have HB3 := Lib.hid (hB2.alloc hB2.size (.cells #[.pointer (some ⟨b, 0, none⟩)] 133))
     have HCn := Lib.hid (cells_new W2 #[.pointer (some ⟨b, 0, none⟩)] 133)
     have hsz2 : w.heap.size < W2.heap.size := lO
     clear hB2 hO2 hP2
     go_wp2_with (at_builtin; (refine wpList_append_lies _ rfl (.tmp 25) (.tmp 27) 129 rfl (w.heap.size + 1) 133 i133 _ 1 8 Tryz.underlying129 ti tz tis tb rfl (by omega) (.slice none 0 0) 0 [] rfl ⟨rfl, .inl ⟨rfl, rfl⟩⟩ ⟨W2.heap.size, 0, none⟩ 1 1 [.pointer (some ⟨b, 0, none⟩)] rfl rfl HCn.out (fun x hx => by simp at hx; subst hx; rfl) (by omega) (by unfold maxLen; omega) (by omega) (by simp; omega) _ rfl ?_))
     intro G cap w4 hown hgr hGe hGl
     have hO4 : Blk w4 w.heap.size 192 #[.int .i64 (m : Int), .string ⟨#[]⟩, .slice none 0 0] := HO3.out.kept hgr (by simp [Value.ownBlock])
     have hP4 : Blk w4 b 192 #[.int .i64 (q : Int), .string st, .slice none 0 0] := HP3.out.kept hgr (by simp [Value.ownBlock])
     have hB4 : Below w.heap.size w w4 := HB3.out.grown hgr HB3.out.size (fun j e => by simp [Value.ownBlock] at e)
     obtain ⟨cs, hG4, hcs, hGb⟩ : ∃ cs, Blk w4 G 133 cs ∧ cs[0]? = some (.pointer (some ⟨b, 0, none⟩)) ∧ w.heap.size + 1 ≤ G := by
      rcases hown.2 with ⟨h, _⟩ | ⟨g', cap', cur, h, h1, h2, _, _, _, h3⟩
      ·simp at h
      ·simp only [Value.slice.injEq, Option.some.injEq, Addr.mk.injEq, and_true, true_and] at h
       obtain ⟨rfl, _⟩ := h
       refine ⟨cur, h2, ?_, h1⟩
       have := congrArg (fun l => l[0]?) h3
       simpa using this
     have d0 := hO4.cell 0
     have d2 := hO4.cell 2
     have f2 := hO4.frozen 2
     have lO4 := hO4.lt
     have KO : Hid (Blk (w4.setCell ⟨w.heap.size, 2, none⟩ (.slice (some ⟨G, 0, none⟩) 1 cap)) w.heap.size 192 #[.int .i64 (m : Int), .string ⟨#[]⟩, .slice (some ⟨G, 0, none⟩) 1 cap]) := Lib.hid (hO4.set 2 _)
     have KP : Hid (Blk (w4.setCell ⟨w.heap.size, 2, none⟩ (.slice (some ⟨G, 0, none⟩) 1 cap)) b 192 #[.int .i64 (q : Int), .string st, .slice none 0 0]) := Lib.hid (hP4.other (by show b ≠ w.heap.size; exact hbO) _)
     have KZ : Hid (∀ V, V = World.drew (w4.setCell ⟨w.heap.size, 2, none⟩ (.slice (some ⟨G, 0, none⟩) 1 cap)) → JoinSt w (ts.take (j + 1)).flatten (V.setCell ⟨w.heap.size, 0, none⟩ (.int .i64 ((m : Int) + (q : Int))))) := Lib.hid fun V hV => by
      rw [HFl.out, Hu0.out, List.nil_append, hV]
      refine ⟨((hB4.setCell (p := ⟨w.heap.size, 2, none⟩) (Nat.le_refl _) _).drew).setCell (p := ⟨w.heap.size, 0, none⟩) (Nat.le_refl _) _, .inr ⟨Htn.out, G, b, cap, cs, ?_, Blk.other (Blk.drew (hG4.other (by show G ≠ w.heap.size; omega) _)) (by show G ≠ w.heap.size; omega) _, hcs, ?_, by omega, hbO⟩⟩
      ·have := (KO.out.drew).set 0 (.int .i64 ((m : Int) + (q : Int)))
       have e1 := Hm0.out
       rw [show ((m : Int) + (q : Int)) = (t.length : Int) by have := Hq.out; omega] at this ⊢
       exact this
      ·have := (KP.out.drew).other (a := ⟨w.heap.size, 0, none⟩) (by show b ≠ w.heap.size; exact hbO) (.int .i64 ((m : Int) + (q : Int)))
       rw [Hq.out, HSt.out] at this
       rw [Hq.out]
       exact this
     clear hown hgr hGe hO4 hP4 hB4 hG4 hcs HO3 HP3 HB3 HCn c0 c2 lO KO0
     go_wp2
     refine wp_region_still_tail 9 (by kernel_rfl) (by kernel_rfl) ?_
     show wpStill _ _ (World.drew (w4.setCell ⟨w.heap.size, 2, none⟩ (.slice (some ⟨G, 0, none⟩) 1 cap))) _ _ _
     obtain ⟨V, hV⟩ : ∃ V, V = World.drew (w4.setCell ⟨w.heap.size, 2, none⟩ (.slice (some ⟨G, 0, none⟩) 1 cap)) := ⟨_, rfl⟩
     have HV := Lib.hid hV
     rw [← hV]
     have KOV := KO.out.below (Below.refl _ (w4.setCell ⟨w.heap.size, 2, none⟩ (.slice (some ⟨G, 0, none⟩) 1 cap))).drew KO.out.lt
     rw [← hV] at KOV
     have KPV := KP.out.below (Below.refl _ (w4.setCell ⟨w.heap.size, 2, none⟩ (.slice (some ⟨G, 0, none⟩) 1 cap))).drew KP.out.lt
     rw [← hV] at KPV
     have v0 := KOV.cell 0
     have v1 := KPV.cell 0
     have vl0 := KOV.lt
     have vl1 := KPV.lt
     have vf := KOV.frozen 0
     have HZV := Lib.hid (KZ.out V hV)
     clear hV KOV KPV KO KP KZ
     simp only [List.take_succ_cons, List.take_zero, List.drop_succ_cons, List.drop_zero]
     repeat still_step
     refine wpStill_nil ?_
     show wpList _ _ _ _ _ (World.drew (w4.setCell ⟨w.heap.size, 2, none⟩ (.slice (some ⟨G, 0, none⟩) 1 cap)))
     rw [← HV.out]
     clear HV
     go_wp2
     go_roundw
     case rel => exact ⟨j + 1, by go_num, by omega, HZV⟩
     case measure => simp [intOf]; omega
    ·have KO0 : Hid (Blk wr w.heap.size 192 #[.int .i64 (m : Int), .string ⟨#[]⟩, .slice (some ⟨G, 0, none⟩) 1 cap]) := Lib.hid (by rw [Hm.out]; exact hO)
     obtain ⟨su, hsu⟩ : ∃ su, su = bs u := ⟨_, rfl⟩
     have KX0 : Hid (Blk wr X 192 #[.int .i64 (m : Int), .string su, .slice none 0 0]) := Lib.hid (by rw [Hm.out, hsu]; exact hX)
     have KP0 : Hid (Blk wr b 192 #[.int .i64 (q : Int), .string st, .slice none 0 0]) := Lib.hid (by rw [Hq.out, HSt.out]; exact HLf.out)
     have hsz1 : su.size = m := by rw [hsu, bs_size, Hm.out]
     have hsz2 : st.size = q := by rw [HSt.out, bs_size, Hq.out]
     have HCat : Hid (su ++ st = bs (u ++ t)) := Lib.hid (by
      rw [hsu, HSt.out]
      apply ByteArray.ext
      rw [ByteArray.data_append]
      unfold bs
      simp)
     have c0 := KO0.out.cell 0
     have c2 := KO0.out.cell 2
     have lO := KO0.out.lt
     have hGc := (hG.cell 0).trans hc
     have lG := hG.lt
     have x0 := KX0.out.cell 0
     have x1 := KX0.out.cell 1
     have lX := KX0.out.lt
     have HBr := Lib.hid hB
     have Hu0 := Lib.hid hu0
     have HGB := Lib.hid hG
     have HCs := Lib.hid hc
     have h4 : (m : Int) + (q : Int) ≤ 4096 := by omega
     clear K hB hO hu0 hX hG hc hsu
     go_wp2
     go_quiet (fail)
     obtain ⟨W2, hW2⟩ : ∃ W2, W2 = wr.drewN nq := ⟨_, rfl⟩
     rw [← hW2]
     have HB2 : Hid (Below w.heap.size w W2) := Lib.hid (by rw [hW2]; exact below_drewN HBr.out _)
     have hO2 : Blk W2 w.heap.size 192 #[.int .i64 (m : Int), .string ⟨#[]⟩, .slice (some ⟨G, 0, none⟩) 1 cap] := by rw [hW2]; exact KO0.out
     have hP2 : Blk W2 b 192 #[.int .i64 (q : Int), .string st, .slice none 0 0] := by rw [hW2]; exact KP0.out
     have hX2 : Blk W2 X 192 #[.int .i64 (m : Int), .string su, .slice none 0 0] := by rw [hW2]; exact KX0.out
     have hG2 : Blk W2 G 133 cs := by rw [hW2]; exact HGB.out
     have HO2 := Lib.hid hO2
     have HP2 := Lib.hid hP2
     have HG2 := Lib.hid hG2
     clear hW2 c0 c2 lO p0 p1 lp hcell x0 x1 lX hGc lG
     have c0 := hO2.cell 0
     have c2 := hO2.cell 2
     have lO := hO2.lt
     have p0 := hP2.cell 0
     have p1 := hP2.cell 1
     have lp := hP2.lt
     have x0 := hX2.cell 0
     have x1 := hX2.cell 1
     have lX := hX2.lt
     have hGc := (hG2.cell 0).trans HCs.out
     have lG := hG2.lt
     have fG := hG2.frozen 0
     have hGO : G ≠ w.heap.size := by omega
     have hbG : b ≠ G := by omega
     clear hO2 hP2 hX2 hG2 KO0 KX0 KP0 HGB HBr
     go_wp2
     obtain ⟨L, hL⟩ : ∃ L, L = W2.heap.size := ⟨_, rfl⟩
     obtain ⟨W3, hW3⟩ : ∃ W3, W3 = (W2.setCell ⟨G, 0, none⟩ (.pointer (some ⟨L, 0, none⟩))).alloc (.cells #[.int .i64 ((m : Int) + (q : Int)), .string (su ++ st), .slice none 0 0] 192) := ⟨_, rfl⟩
     have hLO : w.heap.size < L := by omega
     have hGL : G < L := by omega
     have hsz : (W2.setCell ⟨G, 0, none⟩ (.pointer (some ⟨L, 0, none⟩))).heap.size = L := by simp [World.setCell, hL]
     have KO : Hid (Blk W3.drew w.heap.size 192 #[.int .i64 (m : Int), .string ⟨#[]⟩, .slice (some ⟨G, 0, none⟩) 1 cap]) := Lib.hid (by
      rw [hW3]
      exact ((HO2.out.other (by show w.heap.size ≠ G; omega) _).alloc _).drew)
     have KP : Hid (Blk W3.drew b 192 #[.int .i64 (q : Int), .string st, .slice none 0 0]) := Lib.hid (by
      rw [hW3]
      exact ((HP2.out.other (by show b ≠ G; exact hbG) _).alloc _).drew)
     have KG : Hid (Blk W3.drew G 133 (cs.setIfInBounds 0 (.pointer (some ⟨L, 0, none⟩)))) := Lib.hid (by
      rw [hW3]
      exact ((HG2.out.set 0 _).alloc _).drew)
     have KX : Hid (Blk W3.drew L 192 #[.int .i64 ((m : Int) + (q : Int)), .string (su ++ st), .slice none 0 0]) := Lib.hid (by
      have := Blk.new (W2.setCell ⟨G, 0, none⟩ (.pointer (some ⟨L, 0, none⟩))) 192 #[.int .i64 ((m : Int) + (q : Int)), .string (su ++ st), .slice none 0 0]
      rw [hsz] at this
      rw [hW3]
      exact this.drew)
     have KB : Hid (Below w.heap.size w W3.drew) := Lib.hid (by
      rw [hW3]
      have h1 := HB2.out.setCell (p := ⟨G, 0, none⟩) (by show w.heap.size ≤ G; omega) (.pointer (some ⟨L, 0, none⟩))
      exact (h1.alloc h1.size _).drew)
     have hun : u ++ t ≠ [] := by simp [Hu0.out]
     have hcs : 0 < cs.size := by
      rcases Nat.eq_zero_or_pos cs.size with h | h
      ·have := HCs.out
       rw [Array.getElem?_eq_none (by omega)] at this
       cases this
      ·exact h
     have KZ : Hid (∀ V, V = World.drew W3.drew → JoinSt w (ts.take (j + 1)).flatten (V.setCell ⟨w.heap.size, 0, none⟩ (.int .i64 ((m : Int) + (q : Int))))) := Lib.hid fun V hV => by
      rw [HFl.out, hV]
      have hlen : ((m : Int) + (q : Int)) = ((u ++ t).length : Int) := by rw [List.length_append, ← Hm.out, ← Hq.out]; simp
      refine ⟨KB.out.drew.setCell (p := ⟨w.heap.size, 0, none⟩) (Nat.le_refl _) _, .inr ⟨hun, G, L, cap, cs.setIfInBounds 0 (.pointer (some ⟨L, 0, none⟩)), ?_, (KG.out.drew).other (by show G ≠ w.heap.size; omega) _, by simp [hcs], ?_, by omega, by show L ≠ w.heap.size; omega⟩⟩
      ·have := (KO.out.drew).set 0 (.int .i64 ((m : Int) + (q : Int)))
       rw [hlen] at this ⊢
       exact this
      ·have := (KX.out.drew).other (a := ⟨w.heap.size, 0, none⟩) (by show L ≠ w.heap.size; omega) (.int .i64 ((m : Int) + (q : Int)))
       show Blk _ L 192 _
       rw [← HCat.out, ← hlen]
       exact this
     have HL := Lib.hid hL
     have HW3 := Lib.hid hW3
     clear hL hW3 KG KX KB hsz
     have hcat : ¬ 9223372036854775807 < m + q := by omega
     have hcat2 : ¬ 9223372036854775807 < su.size + st.size := by omega
     go_region_law (go_simp; refine (whole_ba (su ++ st) _ (by simp; omega)).mono ?_; rintro e w5 ⟨rfl, rfl⟩)
     all_goals (rw [← HL.out, ← HW3.out])
     all_goals (
      clear HL HW3 HO2 HP2 HG2 HB2 hcell c0 c2 lO p0 p1 lp x0 x1 lX hGc lG fG
      have c0 := KO.out.cell 0
      have c2 := KO.out.cell 2
      have lO := KO.out.lt
      go_wp2
      refine wp_region_still_tail 9 (by kernel_rfl) (by kernel_rfl) ?_
      show wpStill _ _ (World.drew W3.drew) _ _ _
      obtain ⟨V, hV⟩ : ∃ V, V = World.drew W3.drew := ⟨_, rfl⟩
      have HV := Lib.hid hV
      rw [← hV]
      have KOV := KO.out.below (Below.refl _ W3.drew).drew KO.out.lt
      rw [← hV] at KOV
      have KPV := KP.out.below (Below.refl _ W3.drew).drew KP.out.lt
      rw [← hV] at KPV
      have v0 := KOV.cell 0
      have v1 := KPV.cell 0
      have vl0 := KOV.lt
      have vl1 := KPV.lt
      have vf := KOV.frozen 0
      have HZV := Lib.hid (KZ.out V hV)
      clear hV KOV KPV KO KP KZ
      simp only [List.take_succ_cons, List.take_zero, List.drop_succ_cons, List.drop_zero]
      repeat still_step
      refine wpStill_nil ?_
      show wpList _ _ _ _ _ (World.drew W3.drew)
      rw [← HV.out]
      clear HV
      go_wp2
      go_roundw
      case rel => exact ⟨j + 1, by go_num, by omega, HZV⟩
      case measure => simp [intOf]; omega)
  ·obtain rfl : j = n := by omega
   have e : ts.take j = ts := List.take_of_length_le (by have := HN.out; omega)
   rw [e] at K
   obtain ⟨hB, ⟨hu, hO⟩ | ⟨hu, G, X, cap, cs, hO, hG, hc, hX, hGl, _⟩⟩ := K.out
   ·have c2 := hO.cell 2
    have lO := hO.lt
    have HB := Lib.hid hB
    have HL : Hid (Leaf wr w.heap.size ts.flatten) := Lib.hid (by rw [hu]; exact hO)
    clear K hB hO hu
    go_wp2
    go_ret
    exact ⟨w.heap.size, rfl, HL.out, HB.out⟩
   ·have c2 := hO.cell 2
    have lO := hO.lt
    have lG := hG.lt
    have g0 := (hG.cell 0).trans hc
    have HB := Lib.hid hB
    have HL := Lib.hid hX
    clear K hB hO hG hc hX hu
    go_wp2
    go_ret
    exact ⟨X, rfl, HL.out, HB.out⟩
end Go.Proofs.YtodnlcbnbkkanaaGreatDoor
end
section
namespace Go.Proofs.YtodnlcbnbkkanaaGreatDoor
open Go Go.RowKit Go.Shelf

def wbits (w : Nat) : List Nat := (List.range' 0 64).filter (fun j => w.testBit j)

theorem filter_at (p q : Nat → Bool) (k n : Nat) (hk : k < n) (h0 : ∀ j, j < k → p j = false) (h1 : p k = true) (hq : ∀ j, q j = (p j && decide (j ≠ k))) :
  (List.range' 0 n).filter p = k :: (List.range' 0 n).filter q := by
 have e : List.range' 0 n = List.range' 0 k ++ (k :: List.range' (k + 1) (n - (k + 1))) := by
  have h2 : List.range' 0 n = List.range' 0 k ++ List.range' k (n - k) := by
   have := List.range'_append_1 (s := 0) (m := k) (n := n - k)
   rw [Nat.zero_add] at this
   rw [this]; congr 1; omega
  rw [h2]
  have h3 : n - k = (n - (k + 1)) + 1 := by omega
  rw [h3, List.range'_succ]
 have p0 : (List.range' 0 k).filter p = [] := by
  rw [List.filter_eq_nil_iff]; intro j hj
  rw [List.mem_range'_1] at hj
  rw [h0 j (by omega)]; simp
 have q0 : (List.range' 0 k).filter q = [] := by
  rw [List.filter_eq_nil_iff]; intro j hj
  rw [List.mem_range'_1] at hj
  rw [hq, h0 j (by omega)]; simp
 have qk : q k = false := by rw [hq]; simp
 rw [e, List.filter_append, List.filter_append, p0, q0, List.filter_cons, List.filter_cons, h1, qk]
 simp only [List.nil_append, if_true, Bool.false_eq_true, if_false]
 congr 1
 apply List.filter_congr
 intro j hj
 rw [List.mem_range'_1] at hj
 rw [hq]
 have : j ≠ k := by omega
 simp [this]

theorem bits_low (w : Nat) (h0 : w ≠ 0) (h : w < 2 ^ 64) : wbits w = Lib.ctz 64 w :: wbits (w &&& (w - 1)) ∧ Lib.ctz 64 w < 64 ∧ w &&& (w - 1) < w := by
 obtain ⟨m, hm, hk⟩ := Lib.ctzFrom_spec 64 w (by omega) h
 have hc : Lib.ctz 64 w = Lib.ctzFrom 64 w := by unfold Lib.ctz; simp [h0]
 rw [hc]
 generalize Lib.ctzFrom 64 w = k at hm hk
 have hp : 0 < 2 ^ k := Nat.two_pow_pos k
 have hw : ∀ j, w.testBit j = (decide (k ≤ j) && (2 * m + 1).testBit (j - k)) := by
  intro j; rw [hm, Nat.testBit_two_pow_mul]
 have hw1 : w - 1 = 2 ^ k * (2 * m) + (2 ^ k - 1) := by
  rw [hm, Nat.mul_add]; omega
 have hv : ∀ j, k ≤ j → (w - 1).testBit j = (2 * m).testBit (j - k) := by
  intro j hj
  rw [hw1, Nat.testBit_two_pow_mul_add _ (by omega)]
  simp [Nat.not_lt.2 hj]
 have hb0 : (2 * m + 1).testBit 0 = true := by simp [Nat.testBit_zero]
 have hb1 : (2 * m).testBit 0 = false := by simp [Nat.testBit_zero]
 have hs : ∀ n, (2 * m + 1).testBit (n + 1) = (2 * m).testBit (n + 1) := by
  intro n
  rw [Nat.testBit_succ, Nat.testBit_succ]
  congr 1; omega
 refine ⟨?_, hk, ?_⟩
 ·refine filter_at _ _ k 64 hk ?_ ?_ ?_
  ·intro j hj; rw [hw]; simp [Nat.not_le.2 hj]
  ·rw [hw]; simp [hb0]
  ·intro j
   rw [Nat.testBit_and]
   by_cases h1 : j < k
   ·rw [hw]; simp [Nat.not_le.2 h1]
   ·by_cases h2 : j = k
    ·subst h2; rw [hv j (Nat.le_refl _)]; simp [hb1]
    ·rw [hw, hv j (by omega)]
     obtain ⟨n, hn⟩ : ∃ n, j - k = n + 1 := ⟨j - k - 1, by omega⟩
     rw [hn, hs]
     simp [h2]
 ·have h1 : w &&& (w - 1) ≤ w - 1 := Nat.and_le_right
  omega

theorem wbits_zero : wbits 0 = [] := by unfold wbits; rw [List.filter_eq_nil_iff]; simp
def bytesL (s : BS) : List Nat := (List.range' 0 256).filter (fun j => s.getLsbD j)

def wordL (s : BS) (i : Nat) : List Nat := (wbits (wd s i).toNat).map (64 * i + ·)
def restF (s : BS) : Nat → Nat → List Nat
 | 0, _ => []
 | n + 1, i => wordL s i ++ restF s n (i + 1)
def restW (s : BS) (i : Nat) : List Nat := restF s (4 - i) i
theorem restW_step (s : BS) (i : Nat) (h : i < 4) : restW s i = wordL s i ++ restW s (i + 1) := by
 unfold restW
 rw [show 4 - i = (4 - (i + 1)) + 1 by omega, restF]
theorem restW_end (s : BS) : restW s 4 = [] := rfl

theorem word_part (s : BS) (i : Nat) : (List.range' (64 * i) 64).filter (fun j => s.getLsbD j) = (wbits (wd s i).toNat).map (64 * i + ·) := by
 have e : List.range' (64 * i) 64 = (List.range' 0 64).map (64 * i + ·) := by
  rw [List.map_add_range']; simp
 rw [e, List.filter_map]
 congr 1
 unfold wbits
 apply List.filter_congr
 intro j hj
 rw [List.mem_range'_1] at hj
 show s.getLsbD (64 * i + j) = (wd s i).toNat.testBit j
 rw [← BitVec.getLsbD, wd_bit]
 simp [show j < 64 by omega]

theorem bytesL_words (s : BS) : bytesL s = restW s 0 := by
 rw [restW_step s 0 (by omega), restW_step s 1 (by omega), restW_step s 2 (by omega), restW_step s 3 (by omega), restW_end, List.append_nil]
 unfold wordL
 rw [← word_part, ← word_part, ← word_part, ← word_part, ← List.filter_append, ← List.filter_append, ← List.filter_append]
 have h3 : List.range' 128 64 ++ List.range' 192 64 = List.range' 128 128 := List.range'_append_1 (s := 128) (m := 64) (n := 64)
 have h2 : List.range' 64 64 ++ List.range' 128 128 = List.range' 64 192 := List.range'_append_1 (s := 64) (m := 64) (n := 128)
 have h1 : List.range' 0 64 ++ List.range' 64 192 = List.range' 0 256 := List.range'_append_1 (s := 0) (m := 64) (n := 192)
 simp only [Nat.reduceMul, Nat.reduceAdd]
 rw [h3, h2, h1]
 rfl

theorem mem_bytesL (s : BS) (b : Nat) : b ∈ bytesL s ↔ b < 256 ∧ s.getLsbD b = true := by
 unfold bytesL
 rw [List.mem_filter, List.mem_range'_1]
 constructor
 ·rintro ⟨h1, h2⟩; exact ⟨by omega, h2⟩
 ·rintro ⟨h1, h2⟩; exact ⟨by omega, h2⟩

theorem ix0 (a b c d : Int) (w : World) : (Instr.index 47 (.agg #[.int .u64 a, .int .u64 b, .int .u64 c, .int .u64 d]) (.int .i64 0)).run Tryz.prog w = .ok (.int .u64 a) w := by kernel_rfl
theorem ix1 (a b c d : Int) (w : World) : (Instr.index 47 (.agg #[.int .u64 a, .int .u64 b, .int .u64 c, .int .u64 d]) (.int .i64 1)).run Tryz.prog w = .ok (.int .u64 b) w := by kernel_rfl
theorem ix2 (a b c d : Int) (w : World) : (Instr.index 47 (.agg #[.int .u64 a, .int .u64 b, .int .u64 c, .int .u64 d]) (.int .i64 2)).run Tryz.prog w = .ok (.int .u64 c) w := by kernel_rfl
theorem ix3 (a b c d : Int) (w : World) : (Instr.index 47 (.agg #[.int .u64 a, .int .u64 b, .int .u64 c, .int .u64 d]) (.int .i64 3)).run Tryz.prog w = .ok (.int .u64 d) w := by kernel_rfl

attribute [local go_sem] Oper.semAt_some

def KpG (W W' : World) : Prop := ∀ j v, W.cell? ⟨1, j, none⟩ = some v → W'.cell? ⟨1, j, none⟩ = some v
theorem kpG_t {A B C : World} (h : KpG A B) (k : KpG B C) : KpG A C := fun j v hv => k j v (h j v hv)
theorem kpG_b {w : World} (W : World) (l : Nat) (o o' : Obj) (_ : w.heap.size ≤ l) (h : W.heap[l]? = some o) (hc : o.isCells = false) (_ : o.isWalk = false) : KpG W (W.putObj l o') :=
 fun _ _ hv => Go.cell_kept hv (grownBy_putObj' W l o') (fun r e => by cases e; exact ⟨o, h, hc⟩)
theorem KpG.tab {W W' : World} (h : KpG W W') (hT : TabAt 1 Lib.deBruijn64tab W) : TabAt 1 Lib.deBruijn64tab W' := fun j hj => h _ _ (hT j hj)
theorem KpG.below {W W' : World} {n : Nat} (h : Below n W W') (hn : 1 < n) : KpG W W' := fun j v hv => (h.cell (p := ⟨1, j, none⟩) hn).trans hv

set_option maxRecDepth 100000 in
set_option maxHeartbeats 4000000 in
theorem bytes1_in (n : Nat) (hn : 1 ≤ n) (l Bn : Nat) (s : BS) (J Jx : List Nat → World → Prop)
  (hY : ∀ pre (x : Nat) W, x < 256 → J pre W → pre.length < (bytesL s).length → YieldAt Fence.wide (n - 1) Tryz.prog l #[.int .u8 x] W fun e W' =>
   (e = .returned (.bool true) ∧ J (pre ++ [x]) W' ∧ KpG W W') ∨ (e = .returned (.bool false) ∧ Jx (pre ++ [x]) W'))
  (W : World) (hBn : ∀ i, W.cell? ⟨Bn, i, none⟩ = (cset s)[i]?) (hT : TabAt 1 Lib.deBruijn64tab W) (h0 : J [] W) :
  CallsIn Fence.wide n Tryz.prog 172 #[.func (.yield l) #[] #[], .pointer (some ⟨Bn, 0, none⟩)] W fun e W' => (∃ v, e = .returned v) ∧
   ((∃ ys, ys = bytesL s ∧ J ys W') ∨ (∃ pre, pre <+: bytesL s ∧ Jx pre W')) := by
 have c0 : W.cell? ⟨Bn, 0, none⟩ = some (.int .u64 (wdI s 0)) := hBn 0
 have c1 : W.cell? ⟨Bn, 1, none⟩ = some (.int .u64 (wdI s 1)) := hBn 1
 have c2 : W.cell? ⟨Bn, 2, none⟩ = some (.int .u64 (wdI s 2)) := hBn 2
 have c3 : W.cell? ⟨Bn, 3, none⟩ = some (.int .u64 (wdI s 3)) := hBn 3
 have HT := Lib.hid hT
 clear hBn hT
 refine callsIn_of_wp Tryz.func172 rfl trivial ?_ rfl
 simp only [Tryz.ntmps172, List.size_toArray, List.length_cons, List.length_nil, Nat.reduceAdd, Nat.reduceSub, Array.replicate_succ, Array.replicate_zero, List.push_toArray, List.append_toArray, List.nil_append, List.cons_append]
 gi_wp2
 clear c0 c1 c2 c3
 gi_loopw [6] (fun p wr => ∃ (pre : List Nat) (i : Nat), p = .int .i64 i ∧ i ≤ 4 ∧ Hid (bytesL s = pre ++ restW s i) ∧ J pre wr ∧ Hid (TabAt 1 Lib.deBruijn64tab wr))
  (fun p _ => 4 - (intOf p).toNat)
 case atStart => exact ⟨[], 0, rfl, by omega, bytesL_words s, h0, HT⟩
 case round =>
  obtain ⟨pre, i, rfl, hi, hx, hJ, hTr⟩ := hrel
  by_cases hi4 : i < 4
  ·have hix : ∀ w', (Instr.index 47 (.agg #[.int .u64 (wdI s 0), .int .u64 (wdI s 1), .int .u64 (wdI s 2), .int .u64 (wdI s 3)]) (.int .i64 i)).run Tryz.prog w' = .ok (.int .u64 (wdI s i)) w' := by
    have h : i = 0 ∨ i = 1 ∨ i = 2 ∨ i = 3 := by omega
    rcases h with rfl | rfl | rfl | rfl
    ·exact ix0 _ _ _ _
    ·exact ix1 _ _ _ _
    ·exact ix2 _ _ _ _
    ·exact ix3 _ _ _ _
   gi_wp2
   obtain ⟨wo, rfl⟩ : ∃ wo : World, wo = wr := ⟨_, rfl⟩
   clear hix
   have hdec : decide ((i : Int) < 4) = true := decide_eq_true (by omega)
   rw [hdec]
   clear hdec
   gi_loopw [4] (fun q wr => ∃ (pre : List Nat) (v : Nat), q = .int .u64 v ∧ v < 18446744073709551616 ∧ Hid (bytesL s = pre ++ ((wbits v).map (64 * i + ·) ++ restW s (i + 1))) ∧ J pre wr ∧ Hid (TabAt 1 Lib.deBruijn64tab wr))
    (fun q _ => (intOf q).toNat)
   case atStart =>
    refine ⟨pre, (wd s i).toNat, rfl, (wd s i).isLt, ?_, hJ, hTr⟩
    refine Lib.hid ?_
    rw [hx.out, restW_step s i hi4]; rfl
   case round =>
    clear hJ hTr hx
    obtain ⟨pre, v, rfl, hv, hx, hJ, hTr⟩ := hrel
    by_cases hv0 : v = 0
    ·subst hv0
     have hx2 : Hid (bytesL s = pre ++ restW s (i + 1)) := by
      refine Lib.hid ?_
      rw [hx.out, wbits_zero]; rfl
     gi_wp2
     go_roundw
     case rel => exact ⟨pre, i + 1, by go_num, by omega, hx2, hJ, hTr⟩
     case measure => simp [intOf]; omega
    ·have hv1 : ¬ (v : Int) = 0 := by omega
     obtain ⟨hb1, hb2, hb3⟩ := bits_low v hv0 hv
     have hz := Lib.hid (Tryz.bits_TrailingZeros64 v hv wr (fun _ => hTr.out))
     have hxx : Hid (bytesL s = (pre ++ [64 * i + Lib.ctz 64 v]) ++ ((wbits (v &&& (v - 1))).map (64 * i + ·) ++ restW s (i + 1))) := by
      refine Lib.hid ?_
      rw [hx.out, hb1]; simp
     have hlen : pre.length < (bytesL s).length := by rw [hxx.out]; simp
     obtain ⟨fn, tmps, assign, body, hy, hR⟩ := hY pre (64 * i + Lib.ctz 64 v) wr (by omega) hJ hlen
     have hband : bits .and .u64 (v : Int) ((v : Int) - 1) = ((v &&& (v - 1) : Nat) : Int) := by
      have := bits_and_u64_nat v (v - 1) hv (by omega)
      rw [← this]; congr 1; omega
     generalize Lib.ctz 64 v = z at hz hxx hb2 hy hR hlen
     clear hb1 hx
     have hcast : ((64 * i + z : Nat) : Int) = (i : Int) * 64 + (z : Int) := by omega
     rw [hcast] at hy
     clear hcast
     gi_wp2_with (refine ⟨trivial, ?_⟩; gi_at_call 173; refine (callsIn_wide.2 hz.out).mono ?_; rintro e w' ⟨rfl, rfl⟩)
     refine hR.mono ?_
     rintro e W3 (⟨rfl, hJ3, hk3⟩ | ⟨rfl, hJx3⟩)
     ·have hT3 := Lib.hid (hk3.tab hTr.out)
      gi_wp2
      go_roundw
      case rel => exact ⟨pre ++ [64 * i + z], v &&& (v - 1), rfl, by omega, hxx, hJ3, hT3⟩
      case measure => simp [intOf]; omega
     ·gi_wp2
      refine bodyPost_ret (results_none rfl _ _ _) rfl ?_
      exact ⟨⟨_, rfl⟩, .inr ⟨pre ++ [64 * i + z], by rw [hxx.out]; exact List.prefix_append _ _, hJx3⟩⟩
  ·obtain rfl : i = 4 := by omega
   gi_wp2
   go_end0
   exact ⟨⟨_, rfl⟩, .inl ⟨pre, by rw [hx.out, restW_end, List.append_nil], hJ⟩⟩
theorem bytes_in (n : Nat) (s : BS) (w : World) :
  CallsIn Fence.wide n Tryz.prog 160 #[vset s] w fun e w' => e = .returned (.func (.func 172) #[] #[.pointer (some ⟨w.heap.size, 0, none⟩)]) ∧ w' = w.alloc (.cells (cset s) 47) := by
 unfold vset cset
 refine callsIn_of_wp Tryz.func160 rfl trivial ?_ rfl
 simp only [Tryz.ntmps160, List.size_toArray, List.length_cons, List.length_nil, Nat.reduceAdd, Nat.reduceSub, Array.replicate_succ, Array.replicate_zero, List.push_toArray, List.append_toArray, List.nil_append, List.cons_append]
 gi_wp2
 go_ret
 exact ⟨rfl, rfl⟩

theorem bytes_stops (n : Nat) (hn : 1 ≤ n) (Bn : Nat) (s : BS) (w : World) (hBn : Blk w Bn 47 (cset s)) (hT : TabAt 1 Lib.deBruijn64tab w) :
  SeqStopsK Fence.wide n Tryz.prog 172 #[.pointer (some ⟨Bn, 0, none⟩)] (fun x : Fin 256 => #[Value.int .u8 ((x.val : Nat) : Int)]) KpG (fun ys => ys.map Fin.val = bytesL s) (fun pre => pre.map Fin.val <+: bytesL s) (bytesL s).length w := by
 intro l J Jx W hW _ _ hY h0
 have hc : ∀ i, W.cell? ⟨Bn, i, none⟩ = (cset s)[i]? := (hBn.below hW hBn.lt).cell
 have hT' : TabAt 1 Lib.deBruijn64tab W := fun j hj => by
  have := hT j hj
  exact (hW.cell (p := ⟨1, j, none⟩) (lt_of_cell this)).trans this
 refine (bytes1_in n hn l Bn s (fun p W => ∃ q : List (Fin 256), p = q.map Fin.val ∧ J q W) (fun p W => ∃ q : List (Fin 256), p = q.map Fin.val ∧ Jx q W) ?_ W hc hT' ⟨[], rfl, h0⟩).mono ?_
 ·rintro pre x W2 hx ⟨q, rfl, hJ⟩ hlen
  have h := hY q ⟨x, hx⟩ W2 hJ (by simpa using hlen)
  refine h.mono ?_
  rintro e W3 (⟨h1, h2, h3⟩ | ⟨h1, h2⟩)
  ·exact .inl ⟨h1, ⟨q ++ [⟨x, hx⟩], by simp, h2⟩, h3⟩
  ·exact .inr ⟨h1, ⟨q ++ [⟨x, hx⟩], by simp, h2⟩⟩
 ·rintro e W2 ⟨h1, ⟨ys, hys, q, hq, hJ⟩ | ⟨pre, hpre, q, hq, hJ⟩⟩
  ·exact ⟨h1, .inl ⟨q, hq.symm.trans hys, hJ⟩⟩
  ·exact ⟨h1, .inr ⟨q, by show q.map Fin.val <+: _; rw [← hq]; exact hpre, hJ⟩⟩

theorem cell_new_l (W : World) (v : Value) (t : TypeId) : (W.alloc (.cells #[v] t)).cell? ⟨W.heap.size, 0, none⟩ = some v ∧ (W.alloc (.cells #[v] t)).frozen? ⟨W.heap.size, 0, none⟩ = false :=
 ⟨(Boxed.new W t v).cell, (Boxed.new W t v).frozen⟩
theorem cell_alloc_l {W : World} {a : Addr} {v : Value} (o : Obj) (h : W.cell? a = some v) : (W.alloc o).cell? a = some v := Go.cell_kept h (World.grownBy_alloc W o none) (fun r e => by cases e)
theorem frozen_alloc_l {W : World} {a : Addr} {v : Value} (o : Obj) (h : W.cell? a = some v) (hf : W.frozen? a = false) : (W.alloc o).frozen? a = false := (frozen_kept h (World.grownBy_alloc W o none) (fun r e => by cases e)).trans hf

theorem set_same_l {W : World} {a : Addr} {u v : Value} (h : W.cell? a = some u) : (W.setCell a v).cell? a = some v := World.cell?_setCell_same _ _ _ h
theorem set_else_l {W : World} {b c : Nat} {u v : Value} (h : W.cell? ⟨b, 0, none⟩ = some u) (hne : c ≠ b) : (W.setCell ⟨c, 0, none⟩ v).cell? ⟨b, 0, none⟩ = some u :=
 (World.cell?_setCell_other W ⟨c, 0, none⟩ ⟨b, 0, none⟩ v (fun e => hne (by injection e))).trans h
def leastV : List Nat → Value
 | [] => .tuple #[.int .u8 0, .bool false]
 | x :: _ => .tuple #[.int .u8 x, .bool true]

set_option maxRecDepth 100000 in
set_option maxHeartbeats 4000000 in
theorem least_in (n : Nat) (hn : 6 ≤ n) (s : BS) (w : World) (hG : TabAt 1 Lib.deBruijn64tab w) :
  CallsIn Fence.wide n Tryz.prog 139 #[vset s] w fun e W' => e = .returned (leastV (bytesL s)) ∧ Below w.heap.size w W' := by
 have h1 : 1 ≤ n := by omega
 have h00 : 1 < w.heap.size := lt_of_cell (hG 0 (by decide))
 unfold vset
 refine callsIn_of_wp_marks Tryz.func139 rfl trivial ?_ rfl
 simp only [Tryz.ntmps139, List.size_toArray, List.length_cons, List.length_nil, Nat.reduceAdd, Nat.reduceSub, Array.replicate_succ, Array.replicate_zero, List.push_toArray, List.append_toArray, List.nil_append, List.cons_append]
 gi_wp2_with (refine ⟨trivial, ?_⟩; gi_at_call 160; refine (bytes_in (n - 1) s _).mono ?_; rintro e w' ⟨rfl, rfl⟩)
 have bT := Blk.new (((w.alloc (.cells #[.int .u64 (wdI s 0), .int .u64 (wdI s 1), .int .u64 (wdI s 2), .int .u64 (wdI s 3)] 47)).alloc (.cells #[.int .u8 0] 5)).alloc (.cells #[.bool false] 4)) 47 (cset s)
 have c1 := cell_new_l (w.alloc (.cells #[.int .u64 (wdI s 0), .int .u64 (wdI s 1), .int .u64 (wdI s 2), .int .u64 (wdI s 3)] 47)) (.int .u8 0) 5
 have c2 := cell_new_l ((w.alloc (.cells #[.int .u64 (wdI s 0), .int .u64 (wdI s 1), .int .u64 (wdI s 2), .int .u64 (wdI s 3)] 47)).alloc (.cells #[.int .u8 0] 5)) (.bool false) 4
 simp only [World.size_alloc] at bT c1 c2
 have k1 := cell_alloc_l (.cells (cset s) 47) (cell_alloc_l (.cells #[.bool false] 4) c1.1)
 have f1 := frozen_alloc_l (.cells (cset s) 47) (cell_alloc_l (.cells #[.bool false] 4) c1.1) (frozen_alloc_l (.cells #[.bool false] 4) c1.1 c1.2)
 have k2 := cell_alloc_l (.cells (cset s) 47) c2.1
 have f2 := frozen_alloc_l (.cells (cset s) 47) c2.1 c2.2
 have hB0 : Below w.heap.size w ((((w.alloc (.cells #[.int .u64 (wdI s 0), .int .u64 (wdI s 1), .int .u64 (wdI s 2), .int .u64 (wdI s 3)] 47)).alloc (.cells #[.int .u8 0] 5)).alloc (.cells #[.bool false] 4)).alloc (.cells (cset s) 47)) :=
  ((((Below.refl _ w).alloc (Nat.le_refl _) _).alloc (by simp) _).alloc (by simp; omega) _).alloc (by simp; omega) _
 have hsz : ((((w.alloc (.cells #[.int .u64 (wdI s 0), .int .u64 (wdI s 1), .int .u64 (wdI s 2), .int .u64 (wdI s 3)] 47)).alloc (.cells #[.int .u8 0] 5)).alloc (.cells #[.bool false] 4)).alloc (.cells (cset s) 47)).heap.size = w.heap.size + 4 := by simp
 obtain ⟨W0, hW0⟩ : ∃ W0, ((((w.alloc (.cells #[.int .u64 (wdI s 0), .int .u64 (wdI s 1), .int .u64 (wdI s 2), .int .u64 (wdI s 3)] 47)).alloc (.cells #[.int .u8 0] 5)).alloc (.cells #[.bool false] 4)).alloc (.cells (cset s) 47)) = W0 := ⟨_, rfl⟩
 rw [hW0] at bT k1 f1 k2 f2 hB0 hsz ⊢
 clear hW0 c1 c2
 refine wpIn_rangeFunc_ownG rfl h1 (gf := 172) (lb := #[.pointer (some ⟨w.heap.size + 1 + 1 + 1, 0, none⟩)]) rfl trivial (enters_of Tryz.func172 (by kernel_rfl) rfl)
  (bytes_stops (n - 1) (by omega) (w.heap.size + 1 + 1 + 1) s W0 bT (KpG.tab (KpG.below hB0 h00) hG)) kpG_t kpG_b (Below.refl _ _) (fun _ => rfl)
  (fun pre W => (pre = [] ∧ W.cell? ⟨w.heap.size + 1, 0, none⟩ = some (.int .u8 0) ∧ W.frozen? ⟨w.heap.size + 1, 0, none⟩ = false ∧ W.cell? ⟨w.heap.size + 1 + 1, 0, none⟩ = some (.bool false) ∧ W.frozen? ⟨w.heap.size + 1 + 1, 0, none⟩ = false) ∧ Below w.heap.size w W)
  (fun c pre W => (c = .ret ∧ ∃ x : Fin 256, pre = [x] ∧ W.cell? ⟨w.heap.size + 1, 0, none⟩ = some (.int .u8 ((x.val : Nat) : Int)) ∧ W.cell? ⟨w.heap.size + 1 + 1, 0, none⟩ = some (.bool true)) ∧ Below w.heap.size w W)
  (OwnFrom.and (Own.from (fun s A B row hs hg hr => ⟨hs.1, Go.cell_kept hs.2.1 hg hr, (frozen_kept hs.2.1 hg hr).trans hs.2.2.1, Go.cell_kept hs.2.2.2.1 hg hr, (frozen_kept hs.2.2.2.1 hg hr).trans hs.2.2.2.2⟩) _) (ownFrom_below (Nat.le_refl _) (by omega)))
  (fun c => OwnFrom.and (Own.from (fun s A B row hs hg hr => ⟨hs.1, hs.2.imp fun x h => ⟨h.1, Go.cell_kept h.2.1 hg hr, Go.cell_kept h.2.2 hg hr⟩⟩) _) (ownFrom_below (Nat.le_refl _) (by omega)))
  ⟨⟨rfl, k1, f1, k2, f2⟩, hB0⟩
  (fun x => { tmps := #[.agg #[.int .u64 (wdI s 0), .int .u64 (wdI s 1), .int .u64 (wdI s 2), .int .u64 (wdI s 3)], .pointer (some ⟨w.heap.size, 0, none⟩), .pointer (some ⟨w.heap.size + 1, 0, none⟩), .pointer (some ⟨w.heap.size + 1 + 1, 0, none⟩), .int .u8 ((x.val : Nat) : Int), .agg #[.int .u64 (wdI s 0), .int .u64 (wdI s 1), .int .u64 (wdI s 2), .int .u64 (wdI s 3)], .func (.func 172) #[] #[.pointer (some ⟨w.heap.size + 1 + 1 + 1, 0, none⟩)], .int .u8 ((x.val : Nat) : Int), undef], defers := [] }) ?assign ?body ?done ?stop
 case assign =>
  intro l x W K hK
  gi_wp2
  exact hK
 case body =>
  rintro l pre x W ⟨⟨rfl, p1, q1, p2, q2⟩, hB⟩ hlt
  gi_wp2
  exact ⟨((KeepsOthers.setCell _ _ _).trans (KeepsOthers.setCell _ _ _)).from _, ⟨rfl, x, rfl, set_else_l (set_same_l p1) (by omega), set_same_l (set_else_l p2 (by omega))⟩, (hB.setCell (p := ⟨w.heap.size + 1, 0, none⟩) (by simp) _).setCell (p := ⟨w.heap.size + 1 + 1, 0, none⟩) (by simp; omega) _⟩
 case done =>
  rintro D ys W hD hys ⟨⟨rfl, p1, q1, p2, q2⟩, hB⟩ hK
  have hys2 := Lib.hid (show leastV (bytesL s) = .tuple #[.int .u8 0, .bool false] by rw [← (show ([] : List (Fin 256)).map Fin.val = bytesL s from hys)]; rfl)
  gi_wp2
  have hK' := (KeepsOthers.setCell (W.setCell ⟨w.heap.size + 1, 0, none⟩ (.int .u8 0)) ⟨w.heap.size + 1 + 1, 0, none⟩ (.bool false)).same D _ ((KeepsOthers.setCell W ⟨w.heap.size + 1, 0, none⟩ (.int .u8 0)).same D _ hK rfl) rfl
  refine ⟨by simp, .inl ⟨_, _, rfl, run_takeDeferred hK', ?_⟩⟩
  have hc1 : ((W.setCell ⟨w.heap.size + 1, 0, none⟩ (.int .u8 0)).setCell ⟨w.heap.size + 1 + 1, 0, none⟩ (.bool false)).cell? ⟨w.heap.size + 1, 0, none⟩ = some (.int .u8 0) := by
   exact set_else_l (set_same_l p1) (by omega)
  have hc2 : ((W.setCell ⟨w.heap.size + 1, 0, none⟩ (.int .u8 0)).setCell ⟨w.heap.size + 1 + 1, 0, none⟩ (.bool false)).cell? ⟨w.heap.size + 1 + 1, 0, none⟩ = some (.bool false) := set_same_l (set_else_l p2 (by omega))
  have hc5 := Go.cell_kept hc1 (grownBy_putObj' _ D (.deferred none)) (fun r e => by cases e; exact ⟨_, hK', rfl⟩)
  have hc6 := Go.cell_kept hc2 (grownBy_putObj' _ D (.deferred none)) (fun r e => by cases e; exact ⟨_, hK', rfl⟩)
  refine ⟨.tuple #[.int .u8 0, .bool false], ?_, by rw [hys2.out], ((hB.setCell (p := ⟨w.heap.size + 1, 0, none⟩) (by simp) _).setCell (p := ⟨w.heap.size + 1 + 1, 0, none⟩) (by simp; omega) _).trans (belowK_b (w := w) (Nat.le_refl _) _ D _ _ (by omega) hK' rfl rfl)⟩
  simp [results, Tryz.f139, go_sem, hc5, hc6]
 case stop =>
  rintro D c pre W hD hpre ⟨⟨rfl, x, rfl, hr1, hr2⟩, hB⟩ hK
  have hb : ∃ t, bytesL s = x.val :: t := by
   obtain ⟨t, ht⟩ := (show [x].map Fin.val <+: bytesL s from hpre)
   exact ⟨t, ht.symm⟩
  have hys2 := Lib.hid (show leastV (bytesL s) = .tuple #[.int .u8 ((x.val : Nat) : Int), .bool true] by obtain ⟨t, ht⟩ := hb; rw [ht]; rfl)
  gi_wp2
  refine ⟨by simp, .inl ⟨_, _, rfl, run_takeDeferred hK, ?_⟩⟩
  have hc5 := Go.cell_kept hr1 (grownBy_putObj' _ D (.deferred none)) (fun r e => by cases e; exact ⟨_, hK, rfl⟩)
  have hc6 := Go.cell_kept hr2 (grownBy_putObj' _ D (.deferred none)) (fun r e => by cases e; exact ⟨_, hK, rfl⟩)
  refine ⟨.tuple #[.int .u8 ((x.val : Nat) : Int), .bool true], ?_, by rw [hys2.out], hB.trans (belowK_b (w := w) (Nat.le_refl _) W D _ _ (by omega) hK rfl rfl)⟩
  simp [results, Tryz.f139, go_sem, hc5, hc6]

theorem least_any (s : BS) (w : World) (hG : TabAt 1 Lib.deBruijn64tab w) : Calls Tryz.prog 139 #[vset s] w fun e W' => e = .returned (leastV (bytesL s)) ∧ Below w.heap.size w W' :=
 callsIn_wide.1 (least_in 6 (Nat.le_refl _) s w hG)
end Go.Proofs.YtodnlcbnbkkanaaGreatDoor
end
section
namespace Go.Proofs.YtodnlcbnbkkanaaGreatDoor
open Go Go.RowKit

def TRow (T : World → Nat → List UInt8 → Prop) (W : World) (a : Option Addr) (ts : List (List UInt8)) : Prop :=
 ∀ (i : Nat) (t : List UInt8), ts[i]? = some t → ∃ g off b, a = some ⟨g, off, none⟩ ∧ g < W.heap.size ∧ W.cell? ⟨g, off + i, none⟩ = some (.pointer (some ⟨b, 0, none⟩)) ∧ T W b t

structure Mode (lim : Nat) where
 T : Nat → World → Nat → List UInt8 → Prop
 below : ∀ {N W V b t}, T N W b t → Below W.heap.size W V → T N V b t
 lt : ∀ {N W b t}, T N W b t → b < W.heap.size
 leaf : ∀ {N W b t}, Leaf W b t → t.length ≤ 4096 → t.length ≤ lim → T N W b t
 kept : ∀ {N W V b t} {q : Option Nat}, T N W b t → W.grownBy V q → (∀ g, q = some g → ∃ e cs, Blk W g e cs ∧ e ≠ 192 ∧ (e = 133 → g < N)) → T N V b t
 cmp : ∀ (N a b : Nat) (s t : List UInt8) (w : World), T N w a s → T N w b t → s.length ≤ lim → t.length ≤ lim →
  Calls Tryz.prog 137 #[.pointer (some ⟨a, 0, none⟩), .pointer (some ⟨b, 0, none⟩)] w fun e w' => e = .returned (.int .i64 (cmpT s t)) ∧ Below w.heap.size w w'
 str : ∀ (N a : Nat) (t : List UInt8) (w : World), T N w a t → t.length ≤ lim → Calls Tryz.prog 87 #[.pointer (some ⟨a, 0, none⟩)] w fun e w' => e = .returned (.string (bs t)) ∧ Below w.heap.size w w'
 join : ∀ (N : Nat) (a : Option Addr) (c : Nat) (ts : List (List UInt8)) (w : World), N ≤ w.heap.size → TRow (T N) w a ts → ts.length ≤ 281474976710656 → ts.flatten.length ≤ lim →
  Calls Tryz.prog 141 #[.slice a ts.length c] w fun e w' => ∃ b, e = .returned (.pointer (some ⟨b, 0, none⟩)) ∧ T N w' b ts.flatten ∧ Below w.heap.size w w'

def whole4096 : Mode 4096 where
 T := fun _ W b t => Leaf W b t
 below := fun h hB => h.below hB
 lt := fun h => Blk.lt h
 leaf := fun h _ _ => h
 kept := fun {_ W V b t q} h hg hq => Leaf.kept h hg (by
  rintro rfl
  obtain ⟨e, cs, h1, h2, _⟩ := hq b rfl
  have h3 := (show Blk W b 192 _ from h).symm.trans h1
  simp at h3
  exact h2 h3.2.symm)
 cmp := fun _ a b s t w ha hb hs ht => compare_4096 a b s t w ha.txt hb.txt hs ht
 str := fun _ a t w ha ht => string_4096 a t w ha.txt ht
 join := fun _ a c ts w _ hr hn ht => join_leaves a c ts w (fun i t h => hr i t h) hn ht

def TextsAt (T : World → Nat → List UInt8 → Prop) (W : World) (tb : Nat) (ch : List (Option (List UInt8))) : Prop :=
 ∃ cs, Blk W tb 133 cs ∧ cs.size = ch.length ∧ ∀ (i : Nat) (o : Option (List UInt8)), ch[i]? = some o →
  (o = none ∧ cs[i]? = some (.pointer none)) ∨ (∃ t b, o = some t ∧ cs[i]? = some (.pointer (some ⟨b, 0, none⟩)) ∧ T W b t)
theorem TextsAt.below {T : World → Nat → List UInt8 → Prop} (hT : ∀ {W V b t}, T W b t → Below W.heap.size W V → T V b t) {W V : World} {tb : Nat} {ch : List (Option (List UInt8))} (h : TextsAt T W tb ch) (hB : Below W.heap.size W V) : TextsAt T V tb ch := by
 obtain ⟨cs, h1, h2, h3⟩ := h
 refine ⟨cs, h1.below hB h1.lt, h2, fun i o ho => ?_⟩
 rcases h3 i o ho with h | ⟨t, b, k1, k2, k3⟩
 ·exact .inl h
 ·exact .inr ⟨t, b, k1, k2, hT k3 hB⟩
theorem TextsAt.lt {T : World → Nat → List UInt8 → Prop} {W : World} {tb : Nat} {ch : List (Option (List UInt8))} (h : TextsAt T W tb ch) : tb < W.heap.size := by
 obtain ⟨cs, h1, _⟩ := h; exact h1.lt

def leastB (s : BS) : Nat := (bytesL s).headD 0
theorem leastB_lt (s : BS) : leastB s < 256 := by
 unfold leastB
 cases h : bytesL s with
 | nil => exact Nat.zero_lt_of_lt (by omega : 0 < 256)
 | cons x t => exact ((mem_bytesL s x).1 (by rw [h]; simp)).1
theorem leastV_form (s : BS) : ∃ ok : Bool, leastV (bytesL s) = .tuple #[.int .u8 (leastB s), .bool ok] := by
 unfold leastB
 cases bytesL s with
 | nil => exact ⟨false, rfl⟩
 | cons x t => exact ⟨true, rfl⟩
def partT (ch : List (Option (List UInt8))) (s : SymM) : List UInt8 :=
 if s.kind = 1 then ((ch[s.sort.toNat]?).getD none).getD [] else [UInt8.ofNat (leastB s.set)]
def partsT (ch : List (Option (List UInt8))) (l : List SymM) : List (List UInt8) := l.map (partT ch)
def ReadyP (ch : List (Option (List UInt8))) (l : List SymM) : Prop := ∀ s, s ∈ l → s.kind = 1 → ∃ (k : Nat) (t : List UInt8), s.sort = k ∧ ch[k]? = some (some t)

def PartsAt (T : World → Nat → List UInt8 → Prop) (w : World) (base : Nat) (W : World) (v : Value) (ts : List (List UInt8)) : Prop :=
 ∃ bl : List Nat, W.ownsRow base 133 1 v ts.length (bl.map fun b => .pointer (some ⟨b, 0, none⟩)) ∧ ∀ (i b : Nat) (t : List UInt8), bl[i]? = some b → ts[i]? = some t → T w b t ∨ (Leaf W b t ∧ t.length = 1)
theorem PartsAt.trow {T : World → Nat → List UInt8 → Prop} {w W : World} {base : Nat} {v : Value} {ts : List (List UInt8)} (h : PartsAt T w base W v ts) (hT : ∀ b t, T w b t → T W b t) (hL : ∀ b t, Leaf W b t → t.length = 1 → T W b t) :
  ∃ (a : Option Addr) (c : Nat), v = .slice a ts.length c ∧ TRow T W a ts := by
 obtain ⟨bl, hown, hb⟩ := h
 have hlen := hown.1
 rw [List.length_map, Nat.mul_one] at hlen
 rcases hown.2 with ⟨rfl, h0⟩ | ⟨g, cap, cur, rfl, h1, h2, h3, h4, h5, h6⟩
 ·refine ⟨none, 0, by rw [h0], fun i t ht => ?_⟩
  rw [List.length_eq_zero_iff.1 h0] at ht; simp at ht
 ·refine ⟨some ⟨g, 0, none⟩, cap, rfl, fun i t ht => ?_⟩
  have hi := (List.getElem?_eq_some_iff.1 ht).1
  obtain ⟨b, hbi⟩ : ∃ b, bl[i]? = some b := ⟨_, List.getElem?_eq_getElem (by omega)⟩
  have hT' : T W b t := by
   rcases hb i b t hbi ht with h | ⟨h, hl⟩
   ·exact hT b t h
   ·exact hL b t h hl
  refine ⟨g, 0, b, rfl, Blk.lt (show Blk W g 133 cur from h2), ?_, hT'⟩
  rw [Nat.zero_add, Blk.cell (show Blk W g 133 cur from h2) i]
  have h7 := congrArg (fun l => l[i]?) h6
  simp only [List.getElem?_map, hbi, Option.map_some] at h7
  rw [List.getElem?_take, if_pos (by omega)] at h7
  simpa using h7
end Go.Proofs.YtodnlcbnbkkanaaGreatDoor
end
section
namespace Go.Proofs.YtodnlcbnbkkanaaGreatDoor
open Go Go.RowKit

theorem parts_app {T : World → Nat → List UInt8 → Prop} {w W V : World} {base : Nat} {v v' : Value} {ts : List (List UInt8)} {bl : List Nat} {b : Nat} {t : List UInt8}
  (hown : W.ownsRow base 133 1 v ts.length (bl.map fun b => .pointer (some ⟨b, 0, none⟩))) (hb : ∀ (i b : Nat) (t : List UInt8), bl[i]? = some b → ts[i]? = some t → T w b t ∨ (Leaf W b t ∧ t.length = 1))
  (own' : V.ownsRow base 133 1 v' (ts.length + 1) ((bl.map fun b => .pointer (some ⟨b, 0, none⟩)) ++ [.pointer (some ⟨b, 0, none⟩)])) (hg : W.grownBy V v.ownBlock) (ht : T w b t ∨ (Leaf V b t ∧ t.length = 1)) :
  PartsAt T w base V v' (ts ++ [t]) := by
 have hlen := hown.1
 rw [List.length_map, Nat.mul_one] at hlen
 refine ⟨bl ++ [b], by simpa using own', fun i c u hc hu => ?_⟩
 by_cases hi : i < ts.length
 ·rw [List.getElem?_append_left (by omega)] at hc
  rw [List.getElem?_append_left hi] at hu
  rcases hb i c u hc hu with h | ⟨h, h1⟩
  ·exact .inl h
  ·refine .inr ⟨h.kept hg ?_, h1⟩
   rcases hown.2 with ⟨rfl, _⟩ | ⟨g, cap, cur, rfl, _, h2, _⟩
   ·simp [Value.ownBlock]
   ·simp only [Value.ownBlock, ne_eq, Option.some.injEq]
    rintro rfl
    have h3 := (show Blk W c 192 _ from h).symm.trans h2
    simp at h3
 ·rw [List.getElem?_append_right (by omega)] at hc hu
  obtain rfl : i = ts.length := by
   rcases Nat.lt_or_ge i (ts.length + 1) with h | h
   ·omega
   ·rw [List.getElem?_eq_none (by simp; omega)] at hu; cases hu
  simp [hlen] at hc
  simp at hu
  subst hc hu
  exact ht
theorem PartsAt.below {T : World → Nat → List UInt8 → Prop} {w W V : World} {base : Nat} {v : Value} {ts : List (List UInt8)} (h : PartsAt T w base W v ts) (hB : Below W.heap.size W V) : PartsAt T w base V v ts := by
 obtain ⟨bl, h1, h2⟩ := h
 refine ⟨bl, own_below h1 hB (Nat.le_refl _), fun i b t hb ht => ?_⟩
 rcases h2 i b t hb ht with h | ⟨h, hl⟩
 ·exact .inl h
 ·exact .inr ⟨h.below hB, hl⟩

set_option maxRecDepth 100000 in
set_option maxHeartbeats 8000000 in
theorem textOf_any {lim : Nat} (M : Mode lim) (N cb tb : Nat) (ch : List (Option (List UInt8))) (wv ov : Value) (x : ProdM) (w : World) (hcb : Blk w cb 132 #[.slice (some ⟨tb, 0, none⟩) ch.length ch.length, wv, ov]) (htb : TextsAt (M.T N) w tb ch)
  (hN : N ≤ w.heap.size) (hG : TabAt 1 Lib.deBruijn64tab w) (hx : ProdIn w x) (hr : x.right.length ≤ 30) (hch : ch.length ≤ 1000) (hready : ReadyP ch x.right) (hlen : (partsT ch x.right).flatten.length ≤ lim) (h1 : 1 ≤ lim) :
  Calls Tryz.prog 115 #[.pointer (some ⟨cb, 0, none⟩), prodV x] w fun e w' => ∃ b, e = .returned (.pointer (some ⟨b, 0, none⟩)) ∧ M.T N w' b (partsT ch x.right).flatten ∧ Below w.heap.size w w' := by
 obtain ⟨i133, ti, tz, tis, tb'⟩ := info_parts Tryz.info129e
 have HCb := Lib.hid hcb
 have HTb := Lib.hid htb
 have HN := Lib.hid hN
 have HG := Lib.hid hG
 have HRow : Hid (RowSym w x.ra x.right) := Lib.hid hx
 have HRd := Lib.hid hready
 have HLn := Lib.hid hlen
 have lcb := hcb.lt
 have ltb := htb.lt
 obtain ⟨ra, hra⟩ : ∃ ra, ra = x.ra := ⟨_, rfl⟩
 obtain ⟨n, hn⟩ : ∃ n, n = x.right.length := ⟨_, rfl⟩
 have HNn := Lib.hid hn
 rw [← hra] at HRow
 rw [← hn] at hr
 obtain ⟨m, hm⟩ : ∃ m, m = ch.length := ⟨_, rfl⟩
 have HM := Lib.hid hm
 rw [← hm] at HCb hch
 have hB1 : Hid (Below w.heap.size w (w.alloc (.cells (prodC x) 65))) := (Below.refl _ _).alloc (Nat.le_refl _) _
 have HE : Hid (prodC x = #[.int .i64 x.left, .slice ra n x.rc, .string x.cons, .int .i64 x.role, .bool x.prefer, .bool x.avoid, .int .i64 x.frm]) := Lib.hid (by rw [hra, hn]; rfl)
 have HP0 : Hid (PartsAt (M.T N) w (w.heap.size + 1) (w.alloc (.cells (prodC x) 65)) (.slice none 0 0) (partsT ch (x.right.take 0))) := Lib.hid ⟨[], ⟨rfl, .inl ⟨rfl, rfl⟩⟩, fun i b t h => by simp at h⟩
 unfold prodV
 rw [HE.out] at hB1 HP0 ⊢
 clear hcb htb hN hG hx hready hlen hra hn hm HE
 go_enter Tryz.func115, Tryz.ntmps115
 go_wp2
 go_loopw [5, 13] (fun v5 vj wr => ∃ (j : Nat), vj = .int .i64 j ∧ j ≤ n ∧ Hid (Below w.heap.size w wr) ∧ w.heap.size + 1 ≤ wr.heap.size ∧ Hid (PartsAt (M.T N) w (w.heap.size + 1) wr v5 (partsT ch (x.right.take j)))) (fun _ vj _ => n - (intOf vj).toNat)
 case atStart => exact ⟨0, rfl, Nat.zero_le _, hB1, by simp, HP0⟩
 case round =>
  clear hB1 HP0
  obtain ⟨j, rfl, hj, HB, hsz, HP⟩ := hrel
  by_cases hlt : j < n
  ·obtain ⟨s, hs⟩ : ∃ s, x.right[j]? = some s := ⟨_, List.getElem?_eq_getElem (by rw [← HNn.out]; exact hlt)⟩
   obtain ⟨b1, o1, rfl, hb1, hc1, _⟩ := HRow.out j s hs
   have hc1 := hc1.below HB.out hb1
   have hb1' := Nat.lt_of_lt_of_le hb1 HB.out.size
   obtain ⟨s0, s1, s2, s3, s4, s5⟩ := Sym_at hc1
   have z1 : (j : Int) < (n : Int) := by omega
   have z0 : (0 : Int) ≤ (j : Int) := by omega
   have HSk := Lib.hid (HRd.out s (List.mem_of_getElem? hs))
   have HTk : Hid (partsT ch (x.right.take (j + 1)) = partsT ch (x.right.take j) ++ [partT ch s]) := Lib.hid (by unfold partsT; rw [take_snoc x.right j s hs, List.map_append]; rfl)
   have hBn : Below wr.heap.size wr (wr.alloc (.cells (symC s) 60)) := (Below.refl _ _).alloc (Nat.le_refl _) _
   have HBn : Hid (Below w.heap.size w (wr.alloc (.cells (symC s) 60))) := Lib.hid (HB.out.alloc HB.out.size _)
   have HPn := Lib.hid (HP.out.below hBn)
   obtain ⟨ts, hts⟩ : ∃ ts, ts = partsT ch (x.right.take j) := ⟨_, rfl⟩
   have Hlts : Hid (ts.length = j) := Lib.hid (by rw [hts]; unfold partsT; rw [List.length_map, List.length_take, ← HNn.out]; omega)
   have HTs := Lib.hid hts
   rw [← hts] at HPn HTk
   have KS := Lib.hid (Blk.new wr 60 (symC s))
   clear hs hc1 HP hts hBn
   obtain ⟨sk, ss, so⟩ := s
   unfold symC at HBn HPn KS
   dsimp only at *
   have hcb' : Blk wr cb 132 #[.slice (some ⟨tb, 0, none⟩) m m, wv, ov] := HCb.out.below HB.out lcb
   have c0 := hcb'.cell 0
   have lc := hcb'.lt
   clear hcb'
   cases k1 : (sk == 1) with
   | true =>
    obtain rfl : sk = 1 := by simpa using k1
    clear k1
    obtain ⟨k, t, rfl, hk⟩ := HSk.out rfl
    obtain ⟨cs, ht1, ht2, ht3⟩ := HTb.out
    obtain ⟨b, hcsb, hTb⟩ : ∃ b, cs[k]? = some (.pointer (some ⟨b, 0, none⟩)) ∧ M.T N w b t := by
     rcases ht3 k _ hk with ⟨h, _⟩ | ⟨t', b, h1, h2, h3⟩
     ·cases h
     ·cases h1; exact ⟨b, h2, h3⟩
    have htw := ht1.below HB.out ltb
    have t0 := (htw.cell k).trans hcsb
    have lt0 := htw.lt
    have hkm : k < m := by rw [HM.out]; exact (List.getElem?_eq_some_iff.1 hk).1
    have kz1 : (k : Int) < (m : Int) := by omega
    have kz0 : (0 : Int) ≤ (k : Int) := by omega
    have HTbb := Lib.hid hTb
    clear hTb ht1 ht2 ht3 hcsb htw HSk
    obtain ⟨W, hW⟩ : ∃ W, W = wr.alloc (.cells #[.int .i64 1, .int .u64 (wdI ss 0), .int .u64 (wdI ss 1), .int .u64 (wdI ss 2), .int .u64 (wdI ss 3), .int .i64 k] 60) := ⟨_, rfl⟩
    have HW := Lib.hid hW
    rw [← hW] at HBn HPn KS
    have hTW : Hid (partsT ch (x.right.take (j + 1)) = ts ++ [t]) := Lib.hid (by
     rw [HTk.out]; unfold partT; simp only [if_true, Int.toNat_natCast, hk, Option.getD_some])
    clear hW HTk hk
    have hPV := HPn.out.below (V := (W.alloc (.cells #[.pointer (some ⟨b, 0, none⟩)] 133)).drew) ((Below.refl _ _).alloc (Nat.le_refl _) _).drew
    have hBV : Below w.heap.size w (W.alloc (.cells #[.pointer (some ⟨b, 0, none⟩)] 133)).drew := (HBn.out.alloc HBn.out.size _).drew
    have hCn : ∀ (j : Nat) (v : Value), [Value.pointer (some ⟨b, 0, none⟩)][j]? = some v → (W.alloc (.cells #[.pointer (some ⟨b, 0, none⟩)] 133)).drew.cell? ((⟨wr.heap.size + 1, 0, none⟩ : Addr).add j) = some v := by
     have h := cells_new W #[.pointer (some ⟨b, 0, none⟩)] 133
     rw [show W.heap.size = wr.heap.size + 1 by rw [HW.out]; simp] at h
     exact h
    rw [HW.out] at hPV hBV hCn
    obtain ⟨bl, hown, hbl⟩ := hPV
    have hown2 := hown
    rw [Hlts.out] at hown
    have HBV := Lib.hid hBV
    have HCn := Lib.hid hCn
    have HO := Lib.hid hown
    have HO2 := Lib.hid hown2
    have HBl := Lib.hid hbl
    clear hBV hCn hown hown2 hbl HBn HPn KS HW
    go_wp2
    go_region_law (refine step_append_lies _ rfl (.tmp 20) (.tmp 29) 129 rfl (w.heap.size + 1) 133 i133 _ 1 8 Tryz.underlying129 ti tz tis tb' rfl (by omega) u5 j (bl.map fun b => .pointer (some ⟨b, 0, none⟩)) (by simp [Act.eval, Act.put]) HO.out ⟨wr.heap.size + 1, 0, none⟩ 1 1 [.pointer (some ⟨b, 0, none⟩)] (by simp [Act.eval, Act.put]) rfl HCn.out (fun x hx => by simp at hx; subst hx; rfl) (by omega) (by unfold maxLen; omega) (by omega) (by simp; omega) _ rfl ?_; intro G cap w4 hown4 hgr hGe hGl)
    all_goals (
     have HB4 : Hid (Below w.heap.size w w4) := Lib.hid (HBV.out.grown hgr HBV.out.size (fun g e => by
      rcases HO.out.2 with ⟨rfl, _⟩ | ⟨g', cap', cur, rfl, h1, h2, _⟩
      ·simp [Value.ownBlock] at e
      ·simp [Value.ownBlock] at e; omega))
     have hsz4 : w.heap.size + 1 ≤ w4.heap.size := by have := hgr.size; simp at this; omega
     have HZ : Hid (PartsAt (M.T N) w (w.heap.size + 1) w4 (.slice (some ⟨G, 0, none⟩) (j + 1) cap) (partsT ch (x.right.take (j + 1)))) := Lib.hid (by
      rw [hTW.out]
      exact parts_app HO2.out HBl.out (by rw [Hlts.out]; exact hown4) hgr (.inl HTbb.out))
     clear hown4 hgr HBV HCn HO HO2 HBl
     go_wp2
     go_roundw
     case rel => exact ⟨j + 1, by go_num, by omega, HB4, hsz4, HZ⟩
     case measure => simp [intOf]; omega)
   | false =>
    have hk1 : ¬ sk = 1 := by simpa using k1
    obtain ⟨ok, hok⟩ := leastV_form ss
    obtain ⟨W, hW⟩ : ∃ W, W = wr.alloc (.cells #[.int .i64 sk, .int .u64 (wdI ss 0), .int .u64 (wdI ss 1), .int .u64 (wdI ss 2), .int .u64 (wdI ss 3), .int .i64 so] 60) := ⟨_, rfl⟩
    have HLe := Lib.hid (least_any ss W (KpG.tab (KpG.below (by rw [hW]; exact HBn.out) (by have := lt_of_cell (HG.out 0 (by decide)); exact this)) HG.out))
    rw [hok] at HLe
    unfold vset at HLe
    rw [hW] at HLe
    have hlb := leastB_lt ss
    have hTW : Hid (partsT ch (x.right.take (j + 1)) = ts ++ [[UInt8.ofNat (leastB ss)]]) := Lib.hid (by
     rw [HTk.out]; unfold partT; simp only [hk1, if_false])
    obtain ⟨lb, hlbe⟩ : ∃ lb, lb = leastB ss := ⟨_, rfl⟩
    rw [← hlbe] at HLe hlb hTW
    have HSz := Lib.hid (show (wr.alloc (.cells #[.int .i64 sk, .int .u64 (wdI ss 0), .int .u64 (wdI ss 1), .int .u64 (wdI ss 2), .int .u64 (wdI ss 3), .int .i64 so] 60)).heap.size = wr.heap.size + 1 by simp)
    clear hW HTk HSk hlbe hok c0 lc HTb KS
    go_wp2_with fail
    refine HLe.out.mono ?_
    rintro e w3 ⟨rfl, hB3⟩
    have HB3 := Lib.hid (HBn.out.trans (hB3.mono HBn.out.size))
    have HP3 := Lib.hid (HPn.out.below hB3)
    have hsz3 : w.heap.size + 1 ≤ w3.heap.size := by have := hB3.size; have := HSz.out; omega
    clear hB3 HLe HPn HBn HSz hb1' s0 s1 s2 s3 s4 s5
    have hcv : (convert 57 9 (.slice (some ⟨w3.heap.size, 0, none⟩) 1 1)).run Tryz.prog (w3.alloc (.cells #[.int .u8 lb] 5)) = .ok (.string (bs [UInt8.ofNat lb])) (w3.alloc (.cells #[.int .u8 lb] 5)) :=
     run_convert_bytes_arg _ 57 5 Tryz.underlying57 Tryz.underlying5 w3.heap.size 0 1 1 [(lb : Int)] rfl (fun i hi => by
      obtain rfl : i = 0 := by omega
      exact (Blk.new w3 5 #[.int .u8 lb]).cell 0) 9 Tryz.underlying9
    have HWh := Lib.hid (whole_any [UInt8.ofNat lb] (w3.alloc (.cells #[.int .u8 lb] 5)) (by simp))
    have hBa : Below w3.heap.size w3 (w3.alloc (.cells #[.int .u8 lb] 5)) := (Below.refl _ _).alloc (Nat.le_refl _) _
    have HBa := Lib.hid hBa
    clear hBa
    go_wp2_with fail
    refine HWh.out.mono ?_
    rintro e w4 ⟨rfl, hw4⟩
    have hB34 : Below w3.heap.size w3 w4 := by rw [hw4]; exact HBa.out.alloc HBa.out.size _
    have HLf : Hid (Leaf w4 (w3.heap.size + 1) [UInt8.ofNat lb]) := Lib.hid (by
     have := Blk.new (w3.alloc (.cells #[.int .u8 lb] 5)) 192 #[.int .i64 ([UInt8.ofNat lb] : List UInt8).length, .string (bs [UInt8.ofNat lb]), .slice none 0 0]
     rw [World.size_alloc] at this
     rw [hw4]
     exact this)
    have hs4 := Lib.hid (show w4.heap.size = w3.heap.size + 2 by rw [hw4]; simp)
    have hb4 : w3.heap.size + 1 < w4.heap.size := by rw [hs4.out]; omega
    have HP4 := Lib.hid (HP3.out.below hB34)
    have HB4 := Lib.hid (HB3.out.trans (hB34.mono HB3.out.size))
    clear hB34 hw4 HWh HBa hcv HP3 HB3
    obtain ⟨bl, hown, hbl⟩ := (HP4.out.below (V := w4.alloc (.cells #[.pointer (some ⟨w3.heap.size + 1, 0, none⟩)] 133)) ((Below.refl _ _).alloc (Nat.le_refl _) _))
    have hown2 := hown
    rw [Hlts.out] at hown
    have HCn := Lib.hid (cells_new w4 #[.pointer (some ⟨w3.heap.size + 1, 0, none⟩)] 133)
    have HB5 := Lib.hid (HB4.out.alloc HB4.out.size (.cells #[.pointer (some ⟨w3.heap.size + 1, 0, none⟩)] 133))
    go_wp2_with (at_builtin; (refine wpList_append_lies _ rfl (.tmp 37) (.tmp 42) 129 rfl (w.heap.size + 1) 133 i133 _ 1 8 Tryz.underlying129 ti tz tis tb' rfl (by omega) u5 j (bl.map fun b => .pointer (some ⟨b, 0, none⟩)) rfl hown ⟨w4.heap.size, 0, none⟩ 1 1 [.pointer (some ⟨w3.heap.size + 1, 0, none⟩)] rfl rfl HCn.out (fun x hx => by simp at hx; subst hx; rfl) (by omega) (by unfold maxLen; omega) (by omega) (by simp; omega) _ rfl ?_))
    intro G cap w6 hown6 hgr hGe hGl
    have HB6 : Hid (Below w.heap.size w w6) := Lib.hid (HB5.out.grown hgr HB5.out.size (fun g e => by
     rcases hown.2 with ⟨rfl, _⟩ | ⟨g', cap', cur, rfl, h1, h2, _⟩
     ·simp [Value.ownBlock] at e
     ·simp [Value.ownBlock] at e; omega))
    have hsz6 : w.heap.size + 1 ≤ w6.heap.size := by have := hgr.size; simp at this; omega
    have HZ : Hid (PartsAt (M.T N) w (w.heap.size + 1) w6 (.slice (some ⟨G, 0, none⟩) (j + 1) cap) (partsT ch (x.right.take (j + 1)))) := Lib.hid (by
     rw [hTW.out]
     refine parts_app hown2 hbl (by rw [Hlts.out]; exact hown6) hgr (.inr ⟨?_, rfl⟩)
     refine (HLf.out.below ((Below.refl _ _).alloc (Nat.le_refl _) _)).kept hgr ?_
     rcases hown.2 with ⟨rfl, _⟩ | ⟨g, cap, cur, rfl, _, h2, _⟩
     ·simp [Value.ownBlock]
     ·simp only [Value.ownBlock, ne_eq, Option.some.injEq]
      rintro rfl
      have h3 := (show Blk _ (w3.heap.size + 1) 192 _ from HLf.out.below (V := w4.alloc (.cells #[.pointer (some ⟨w3.heap.size + 1, 0, none⟩)] 133)) ((Below.refl _ _).alloc (Nat.le_refl _) _)).symm.trans h2
      simp at h3)
    clear hown hown2 hown6 hbl hgr HB5 HCn HP4 HB4 HLf
    go_wp2
    go_roundw
    case rel => exact ⟨j + 1, by go_num, by omega, HB6, hsz6, HZ⟩
    case measure => simp [intOf]; omega
  ·obtain rfl : j = n := by omega
   have e : x.right.take j = x.right := List.take_of_length_le (by have := HNn.out; omega)
   rw [e] at HP
   obtain ⟨a, c, rfl, hrow⟩ := HP.out.trow (fun b t h => M.below h HB.out) (fun b t h hl => M.leaf h (by omega) (by omega))
   have hl : (partsT ch x.right).length = j := by unfold partsT; rw [List.length_map, ← HNn.out]
   have HJ := Lib.hid (M.join N a c (partsT ch x.right) wr (Nat.le_trans HN.out HB.out.size) hrow (by omega) HLn.out)
   rw [hl] at HJ ⊢
   clear HP hrow hl e
   go_wp2_with fail
   refine HJ.out.mono ?_
   rintro e w3 ⟨b, rfl, hT, hB3⟩
   have HT := Lib.hid hT
   have HB3 := Lib.hid (HB.out.trans (hB3.mono HB.out.size))
   clear hT hB3 HJ
   go_wp2
   go_ret
   exact ⟨b, rfl, HT.out, HB3.out⟩
end Go.Proofs.YtodnlcbnbkkanaaGreatDoor
end
section
namespace Go.Proofs.YtodnlcbnbkkanaaGreatDoor
open Go Go.RowKit

theorem info158 : (Tryz.prog.info? 158).map (fun i => (i.zero, i.size, i.bytes)) = some (some (.agg #[.int .i64 0, .pointer none]), 2, 16) := by kernel_rfl

theorem run_copy2 (w : World) (ty : TypeId) (b o dLen dCap : Nat) (a : Addr) (sLen sCap : Nat) (cs : List Value) (hn : cs.length = Nat.min sLen dLen * 2)
  (hsrc : ∀ j v, cs[j]? = some v → w.cell? (a.add j) = some v) (hc : ∀ j, j < cs.length → (w.cell? ⟨b, o + j, none⟩).isSome = true) (hf : ∀ j, j < cs.length → w.frozen? ⟨b, o + j, none⟩ = false) (h1 : ∀ v ∈ cs, v.oneCell' = true) :
  (Builtin.copy_ #[130, 130] ty #[.slice (some ⟨b, o, none⟩) dLen dCap, .slice (some a) sLen sCap]).run Tryz.prog w = .ok (goInt (Nat.min sLen dLen)) (w.setCells b o cs) := by
 obtain ⟨i, hi, _, hz, _⟩ := info_parts info158
 have hl := run_loadCells_list (P := Tryz.prog) w a cs hsrc
 have hst := run_storeCells_cells (P := Tryz.prog) b o cs 0 w (by simpa using hc) (by simpa using hf) h1
 simp [Builtin.copy_, run_underlying Tryz.underlying130, Builtin.lenOf, Builtin.firstCells, sizeOf, typeInfo, hi, hz, ← hn, hl, hst]

theorem Blk.some {W : World} {B t : Nat} {cs : Array Value} (h : Blk W B t cs) (j : Nat) (hj : j < cs.size) : (W.cell? ⟨B, j, none⟩).isSome = true := by
 rw [h.cell j, Array.getElem?_eq_getElem hj]; rfl
theorem Blk.shape {W : World} {B t : Nat} {cs : Array Value} (h : Blk W B t cs) : W.shape? B = .some (t, cs.size) := by
 unfold World.shape?
 rw [show W.heap[B]? = _ from h]

set_option maxRecDepth 100000 in
set_option maxHeartbeats 4000000 in
theorem ins_shift (g off n c i vb : Nat) (L : List Value) (x y : Value) (cs : Array Value) (w : World) (hi : i < n) (hroom : n + 1 ≤ c) (hc63 : c ≤ 9223372036854775807) (hg : Blk w g 158 cs) (hL : L.length = n * 2)
  (hLc : ∀ j v, L[j]? = .some v → cs[off + j]? = .some v) (hsz : off + (n + 1) * 2 ≤ cs.size) (hv : Blk w vb 158 #[x, y]) (hne : vb ≠ g) (h1 : ∀ v ∈ L, v.oneCell' = true) (h2 : ∀ v ∈ [x, y], v.oneCell' = true) :
  Calls Tryz.prog 138 #[.slice (.some ⟨g, off, none⟩) n c, .int .i64 i, .slice (.some ⟨vb, 0, none⟩) 1 1] w fun e w' =>
   e = .returned (.slice (.some ⟨g, off, none⟩) (n + 1) c) ∧ w' = (w.drew.setCells g (off + (i + 1) * 2) (L.drop (i * 2))).setCells g (off + i * 2) [x, y] := by
 have hz2 : ¬ ((i : Int) = (n : Int)) := by omega
 have hov : ∀ lb cb, (callFunc 158 #[.slice (.some ⟨vb, 0, none⟩) 1 1, .slice (.some ⟨g, off + (i + 1) * 2, none⟩) lb cb]).run Tryz.prog w = .ok (.value (.bool false)) w := fun lb cb => by
  rw [run_callFunc_extern Tryz.func158 (by kernel_rfl) (by kernel_rfl) (by kernel_rfl) (e := Extern.SlicesOverlaps.overlaps #[130, 130] #[4]) (by kernel_rfl),
   Lib.run_overlaps_apart w 130 4 158 Tryz.underlying130 2 Tryz.sizeOf158 ⟨vb, 0, none⟩ ⟨g, off + (i + 1) * 2, none⟩ 1 1 lb cb hne 158 158 _ _ hv.shape hg.shape (by omega) (hv.frozen 0) (hv.frozen _)]
  rfl
 have hdl : (L.drop (i * 2)).length = (n - i) * 2 := by rw [List.length_drop, hL]; omega
 have hw1 : IntKind.i64.wrap ((i : Int) + (1 : Int)) = (i : Int) + (1 : Int) := by rw [IntKind.wrap_i64]; omega
 have hw2 : IntKind.i64.wrap ((n : Int) + (1 : Int)) = (n : Int) + (1 : Int) := by rw [IntKind.wrap_i64]; omega
 have hb1 : (0 : Int) ≤ (i : Int) + (1 : Int) := by omega
 have hin : i ≤ n := by omega
 have htn : ((i : Int) + (1 : Int)).toNat = i + 1 := by omega
 have htn2 : ((n : Int) + (1 : Int)).toNat = n + 1 := by omega
 have hb2 : ¬ (c = i + 1) := by omega
 have hb3 : (i : Int) ≤ (n : Int) + (1 : Int) := by omega
 have hb4 : ¬ (c = i) := by omega
 have hcp1 : ∀ ty dc sc, (Builtin.copy_ #[130, 130] ty #[.slice (.some ⟨g, off + (i + 1) * 2, none⟩) (n + 1 - (i + 1)) dc, .slice (.some ⟨g, off + i * 2, none⟩) (n + 1 - i) sc]).run Tryz.prog w.drew = .ok (goInt (Nat.min (n + 1 - i) (n + 1 - (i + 1)))) (w.drew.setCells g (off + (i + 1) * 2) (L.drop (i * 2))) := fun ty dc sc =>
  run_copy2 w.drew ty g (off + (i + 1) * 2) _ dc ⟨g, off + i * 2, none⟩ _ sc (L.drop (i * 2)) (by rw [hdl]; simp only [Nat.min_def]; split <;> omega)
   (fun j v hj => by
    rw [List.getElem?_drop] at hj
    rw [add_off]
    exact (hg.drew.cell _).trans (by rw [Nat.add_assoc]; exact hLc _ v hj))
   (fun j hj => hg.drew.some _ (by omega)) (fun j hj => hg.drew.frozen _) (fun v hv => h1 v (List.mem_of_mem_drop hv))
 obtain ⟨W1, hW1⟩ : ∃ W1, W1 = w.drew.setCells g (off + (i + 1) * 2) (L.drop (i * 2)) := ⟨_, rfl⟩
 have hg1 := Blk.setCells (L.drop (i * 2)) (off + (i + 1) * 2) hg.drew
 rw [← hW1] at hg1
 have hv1 : Blk W1 vb 158 #[x, y] := by rw [hW1]; exact (hv.drew).kept (grown_setCells g _ _ w.drew) (by simpa using hne)
 have hcp2 : ∀ (W : World), (∀ x, W.cell? x = W1.cell? x) → (∀ x, W.frozen? x = W1.frozen? x) → ∀ ty dc, (Builtin.copy_ #[130, 130] ty #[.slice (.some ⟨g, off + i * 2, none⟩) (n + 1 - i) dc, .slice (.some ⟨vb, 0, none⟩) 1 1]).run Tryz.prog W = .ok (goInt (Nat.min 1 (n + 1 - i))) (W.setCells g (off + i * 2) [x, y]) := fun W hWc hWf ty dc =>
  run_copy2 W ty g (off + i * 2) _ dc ⟨vb, 0, none⟩ 1 1 [x, y] (by simp only [Nat.min_def]; split <;> simp <;> omega)
   (fun j v hj => by
    rw [hWc, add_off, Nat.zero_add, hv1.cell]
    simpa using hj)
   (fun j hj => by rw [hWc]; exact hg1.some _ (by simp at hj; rw [putC_size]; omega)) (fun j hj => by rw [hWf]; exact hg1.frozen _) h2
 rw [← hW1] at hcp1
 clear hg1 hv1 hdl
 have mixed : Tryz.prog.follows Departure.mixedOrders = true := by kernel_rfl
 go_enter Tryz.func138, Tryz.ntmps138
 go_wp2_with (simp only [hov])
 go_region_law_o (refine step_copy_runI rfl _ _ 130 130 rfl (.slice (.some ⟨g, off + (i + 1) * 2, none⟩) (n + 1 - (i + 1)) (c - (i + 1))) (.slice (.some ⟨g, off + i * 2, none⟩) (n + 1 - i) (c - i)) (by simp [Act.eval, Act.put]) (by simp [Act.eval, Act.put]) (hcp1 _ (c - (i + 1)) (c - i)) ?_)
 go_wp2_with (at_builtin; refine wpList_copy_runI _ rfl _ _ 130 130 rfl _ _ rfl rfl (hcp2 _ (fun _ => rfl) (fun _ => rfl) _ _) ?_)
 go_ret
 first | exact ⟨rfl, rfl⟩ | exact ⟨rfl, by rw [hW1]⟩
end Go.Proofs.YtodnlcbnbkkanaaGreatDoor
end
section
namespace Go.Proofs.YtodnlcbnbkkanaaGreatDoor
open Go Go.RowKit

def zOff : Value := .agg #[.int .i64 0, .pointer none]
theorem zOff_cells : zOff.cells = #[.int .i64 0, .pointer none] := rfl

set_option maxRecDepth 100000 in
set_option maxHeartbeats 4000000 in
theorem ins_grow (g off n c i vb : Nat) (L : List Value) (x y : Value) (cs : Array Value) (w : World) (hi : i < n) (hnc : n ≤ c) (hroom : c < n + 1) (hbig : (n + 1) * 16 ≤ 140737488355328) (hg : Blk w g 158 cs) (hL : L.length = n * 2)
  (hLc : ∀ j v, L[j]? = some v → cs[off + j]? = some v) (hv : Blk w vb 158 #[x, y]) (h1 : ∀ v ∈ L, v.oneCell' = true) (h2 : ∀ v ∈ [x, y], v.oneCell' = true) :
  Calls Tryz.prog 138 #[.slice (some ⟨g, off, none⟩) n c, .int .i64 i, .slice (some ⟨vb, 0, none⟩) 1 1] w fun e w' =>
   ∃ G, n + 1 ≤ G ∧ G ≤ maxLen ∧ e = .returned (.slice (some ⟨w.heap.size, 0, none⟩) (n + 1) G) ∧
   w' = (((w.alloc (.cells ((L.take (i * 2)).toArray ++ Builtin.zeroCells zOff.cells (n + 1 - i) ++ Builtin.zeroCells zOff.cells (G - (n + 1))) 158)).drew.setCells w.heap.size (i * 2) [x, y]).drew).setCells w.heap.size ((i + 1) * 2) (L.drop (i * 2)) := by
 obtain ⟨i0, hi0, hz0, hzs, hzb⟩ := info_parts info158
 have hz2 : ¬ ((i : Int) = (n : Int)) := by omega
 have hz3 : (c : Int) < (n : Int) + (1 : Int) := by omega
 have hbw := hg.lt
 have hvw := hv.lt
 have hkk : (n : Int) + (1 : Int) - (i : Int) = ((n + 1 - i : Nat) : Int) := by omega
 have hik : i + (n + 1 - i) = n + 1 := by omega
 have hold : (Builtin.firstCells i0.size i (.slice (some ⟨g, off, none⟩) i c)).run Tryz.prog w.drew = .ok (L.take (i * 2)).toArray w.drew := by
  rw [hzs]
  exact run_firstCells_some w.drew 2 i ⟨g, off, none⟩ i c (L.take (i * 2)) (by rw [List.length_take, hL]; simp only [Nat.min_def]; split <;> omega) (fun j v hj => by
   rw [add_off]
   rw [List.getElem?_take] at hj
   split at hj
   ·exact (hg.drew.cell _).trans (hLc j v hj)
   ·cases hj)
 have hrz : ∀ ty, (Builtin.append_ #[130, 3] ty #[.slice (some ⟨g, off, none⟩) i c, .int .i64 ((n : Int) + (1 : Int) - (i : Int))]).run Tryz.prog w =
   .ok (.slice (some ⟨w.heap.size, 0, none⟩) (n + 1) (grownCap w (n + 1) c 158)) (w.drew.alloc (.cells ((L.take (i * 2)).toArray ++ Builtin.zeroCells zOff.cells (n + 1 - i) ++ Builtin.zeroCells zOff.cells (grownCap w (n + 1) c 158 - (n + 1))) 158)) := fun ty => by
  have h := Lib.run_append_grow_zeros w 130 3 ty 158 i0 _ .i64 .i64 Tryz.underlying130 Tryz.underlying3 hi0 hz0 (some ⟨g, off, none⟩) i c (L.take (i * 2)) hold (n + 1 - i) (by omega) (by omega) (by omega) (by omega) (by rw [hzb]; omega) (by rw [hzb, hik]; exact growslice_fits hroom hbig)
  rw [hik] at h
  rw [hkk]
  exact h
 have hGn : n + 1 ≤ grownCap w (n + 1) c 158 := grownCap_ge w _ _ _
 have hGm := grownCap_le_maxLen w (n + 1) c 158 (by unfold maxLen; omega)
 obtain ⟨G, hG⟩ : ∃ G, G = grownCap w (n + 1) c 158 := ⟨_, rfl⟩
 obtain ⟨ROW, hROW⟩ : ∃ ROW : Array Value, ROW = (L.take (i * 2)).toArray ++ Builtin.zeroCells zOff.cells (n + 1 - i) ++ Builtin.zeroCells zOff.cells (G - (n + 1)) := ⟨_, rfl⟩
 rw [← hG] at hrz hGn hGm
 rw [← hROW] at hrz
 have HROW := Lib.hid hROW
 have hRl : (n + 1) * 2 ≤ ROW.size := by
  rw [hROW]
  simp [Builtin.zeroCells, zOff_cells, hL]
  omega
 obtain ⟨W1, hW1⟩ : ∃ W1, W1 = w.drew.alloc (.cells ROW 158) := ⟨_, rfl⟩
 rw [← hW1] at hrz
 have hN : Blk W1 w.heap.size 158 ROW := by rw [hW1]; exact Blk.new w.drew 158 ROW
 have hO : Blk W1 g 158 cs := by rw [hW1]; exact hg.drew.alloc _
 have hV : Blk W1 vb 158 #[x, y] := by rw [hW1]; exact hv.drew.alloc _
 have hcpA : ∀ (W : World), (∀ x, W.cell? x = W1.cell? x) → (∀ x, W.frozen? x = W1.frozen? x) → ∀ ty dc, (Builtin.copy_ #[130, 130] ty #[.slice (some ⟨w.heap.size, i * 2, none⟩) (n + 1 - i) dc, .slice (some ⟨vb, 0, none⟩) 1 1]).run Tryz.prog W = .ok (goInt (Nat.min 1 (n + 1 - i))) (W.setCells w.heap.size (i * 2) [x, y]) := fun W hWc hWf ty dc =>
  run_copy2 W ty w.heap.size (i * 2) (n + 1 - i) dc ⟨vb, 0, none⟩ 1 1 [x, y] (by simp only [Nat.min_def]; split <;> simp <;> omega)
   (fun j v hj => by rw [hWc, add_off, Nat.zero_add, hV.cell]; simpa using hj)
   (fun j hj => by rw [hWc]; exact hN.some _ (by simp at hj; omega)) (fun j hj => by rw [hWf]; exact hN.frozen _) h2
 have hG63 : G ≤ 9223372036854775807 := by unfold maxLen at hGm; omega
 have hGi : ¬ (G = i) := by omega
 have hGim : ¬ (G = i + 1) := by omega
 have hci : ¬ (c = i) := by omega
 have hbN : g ≠ w.heap.size := by omega
 have hdl : (L.drop (i * 2)).length = (n - i) * 2 := by rw [List.length_drop, hL]; omega
 have hN2 := Blk.setCells [x, y] (i * 2) hN
 have hO2 : Blk (W1.setCells w.heap.size (i * 2) [x, y]) g 158 cs := hO.kept (grown_setCells w.heap.size _ _ W1) (by simpa using hbN)
 have hcpB : ∀ (W : World), (∀ x', W.cell? x' = (W1.setCells w.heap.size (i * 2) [x, y]).cell? x') → (∀ x', W.frozen? x' = (W1.setCells w.heap.size (i * 2) [x, y]).frozen? x') → ∀ ty dc sc, (Builtin.copy_ #[130, 130] ty #[.slice (some ⟨w.heap.size, (i + 1) * 2, none⟩) (n + 1 - (i + 1)) dc, .slice (some ⟨g, off + i * 2, none⟩) (n - i) sc]).run Tryz.prog W = .ok (goInt (Nat.min (n - i) (n + 1 - (i + 1)))) (W.setCells w.heap.size ((i + 1) * 2) (L.drop (i * 2))) := fun W hWc hWf ty dc sc =>
  run_copy2 W ty w.heap.size ((i + 1) * 2) (n + 1 - (i + 1)) dc ⟨g, off + i * 2, none⟩ (n - i) sc (L.drop (i * 2)) (by rw [hdl]; simp only [Nat.min_def]; split <;> omega)
   (fun j v hj => by
    rw [List.getElem?_drop] at hj
    rw [add_off, hWc, hO2.cell, Nat.add_assoc]
    exact hLc _ v hj)
   (fun j hj => by rw [hWc]; exact hN2.some _ (by rw [putC_size]; omega))
   (fun j hj => by rw [hWf]; exact hN2.frozen _) (fun v hv => h1 v (List.mem_of_mem_drop hv))
 subst hW1
 have hE1 : ∀ x, ((w.alloc (.cells ROW 158)).drew).cell? x = (w.drew.alloc (.cells ROW 158)).cell? x := fun x => rfl
 have hE2 : ∀ x, ((w.alloc (.cells ROW 158)).drew).frozen? x = (w.drew.alloc (.cells ROW 158)).frozen? x := fun x => rfl
 have hF1 : ∀ x', (((w.alloc (.cells ROW 158)).drew.setCells w.heap.size (i * 2) [x, y]).drew).cell? x' = ((w.drew.alloc (.cells ROW 158)).setCells w.heap.size (i * 2) [x, y]).cell? x' := fun x => rfl
 have hF2 : ∀ x', (((w.alloc (.cells ROW 158)).drew.setCells w.heap.size (i * 2) [x, y]).drew).frozen? x' = ((w.drew.alloc (.cells ROW 158)).setCells w.heap.size (i * 2) [x, y]).frozen? x' := fun x => rfl
 have hw1 : IntKind.i64.wrap ((i : Int) + (1 : Int)) = (i : Int) + (1 : Int) := by rw [IntKind.wrap_i64]; omega
 have hw2 : IntKind.i64.wrap ((n : Int) + (1 : Int)) = (n : Int) + (1 : Int) := by rw [IntKind.wrap_i64]; omega
 have hw3 : IntKind.i64.wrap ((n : Int) + (1 : Int) - (i : Int)) = (n : Int) + (1 : Int) - (i : Int) := by rw [IntKind.wrap_i64]; omega
 have hb1 : (0 : Int) ≤ (i : Int) + (1 : Int) := by omega
 have hin : i ≤ n := by omega
 have htn : ((i : Int) + (1 : Int)).toNat = i + 1 := by omega
 have hb3 : (i : Int) ≤ (n : Int) := by omega
 have mixed : Tryz.prog.follows Departure.mixedOrders = true := by kernel_rfl
 clear hkk hik hold hROW hG hRl hN hO hV hN2 hO2
 go_enter Tryz.func138, Tryz.ntmps138
 go_wp2_with (first
  | (at_builtin; refine Lib.wpList_append_run _ rfl _ _ _ _ rfl _ _ rfl rfl _ _ (hrz _) ?_)
  | (at_builtin; refine wpList_copy_runI _ rfl _ _ 130 130 rfl _ _ rfl rfl (hcpA _ hE1 hE2 _ _) ?_)
  | (at_builtin; refine wpList_copy_runI _ rfl _ _ 130 130 rfl _ _ rfl rfl (hcpB _ (fun _ => rfl) (fun _ => rfl) _ _ _) ?_))
 go_region_law_o (refine step_copy_runI rfl _ _ 130 130 rfl (.slice (some ⟨w.heap.size, (i + 1) * 2, none⟩) (n + 1 - (i + 1)) (G - (i + 1))) (.slice (some ⟨g, off + i * 2, none⟩) (n - i) (c - i)) (by simp [Act.eval, Act.put]) (by simp [Act.eval, Act.put]) (hcpB _ hF1 hF2 3 (G - (i + 1)) (c - i)) ?_)
 go_wp2
 go_ret
 exact ⟨G, hGn, hGm, rfl, by rw [HROW.out]⟩

set_option maxRecDepth 100000 in
set_option maxHeartbeats 4000000 in
theorem ins_end_room (g off n c vb : Nat) (x y : Value) (cs : Array Value) (w : World) (hroom : n + 1 ≤ c) (hc63 : c ≤ 9223372036854775807) (hg : Blk w g 158 cs) (hsz : off + (n + 1) * 2 ≤ cs.size)
  (hv : Blk w vb 158 #[x, y]) (h2 : ∀ v ∈ [x, y], v.oneCell' = true) :
  Calls Tryz.prog 138 #[.slice (some ⟨g, off, none⟩) n c, .int .i64 n, .slice (some ⟨vb, 0, none⟩) 1 1] w fun e w' =>
   e = .returned (.slice (some ⟨g, off, none⟩) (n + 1) c) ∧ w' = w.setCells g (off + n * 2) [x, y] := by
 obtain ⟨i0, hi0, hz0, hzs, hzb⟩ := info_parts info158
 have hsrc : Src Tryz.prog i0.size 130 (.slice (some ⟨vb, 0, none⟩) 1 1) 1 [x, y] w := by
  rw [hzs]
  exact Src.ofSlice w Tryz.underlying130 ⟨vb, 0, none⟩ 1 1 [x, y] rfl (fun j u hj => by rw [add_off, Nat.zero_add, hv.cell]; simpa using hj) h2
 have hrun : ∀ ty, (Builtin.append_ #[130, 130] ty #[.slice (some ⟨g, off, none⟩) n c, .slice (some ⟨vb, 0, none⟩) 1 1]).run Tryz.prog w = .ok (.slice (some ⟨g, off, none⟩) (n + 1) c) (w.setCells g (off + n * 2) [x, y]) := fun ty => by
  have h := run_append_room_src (P := Tryz.prog) (w := w) 130 130 ty 158 i0 Tryz.underlying130 hi0 g off n c _ 1 [x, y] hsrc hroom (fun j hj => hg.some _ (by rw [hzs]; simp at hj; omega)) (fun j hj => hg.frozen _)
  rw [hzs] at h
  exact h
 have hci : ¬ (c = n) := by omega
 have hnn : n ≤ n := Nat.le_refl _
 clear hsrc hi0 hz0 hzs hzb
 go_enter Tryz.func138, Tryz.ntmps138
 go_wp2_with (at_builtin; refine Lib.wpList_append_run _ rfl _ _ _ _ rfl _ _ rfl rfl _ _ (hrun _) ?_)
 go_ret
 exact ⟨rfl, rfl⟩

def endGrown (w : World) (L : List Value) (x y : Value) (n G : Nat) : World := w.drew.alloc (.cells ((L ++ [x, y]).toArray ++ Builtin.zeroCells zOff.cells (G - (n + 1))) 158)
set_option maxRecDepth 100000 in
set_option maxHeartbeats 4000000 in
theorem ins_end_grow (base : Option Addr) (n c vb : Nat) (L : List Value) (x y : Value) (w : World) (hnc : n ≤ c) (hroom : c < n + 1) (hbig : (n + 1) * 16 ≤ 140737488355328) (hL : L.length = n * 2) (hnil : base = none → n = 0)
  (hLc : ∀ a, base = some a → ∃ g off cs, a = ⟨g, off, none⟩ ∧ Blk w g 158 cs ∧ ∀ j v, L[j]? = some v → cs[off + j]? = some v) (hv : Blk w vb 158 #[x, y]) (h2 : ∀ v ∈ [x, y], v.oneCell' = true) :
  Calls Tryz.prog 138 #[.slice base n c, .int .i64 n, .slice (some ⟨vb, 0, none⟩) 1 1] w fun e w' =>
   ∃ G, n + 1 ≤ G ∧ G ≤ maxLen ∧ e = .returned (.slice (some ⟨w.heap.size, 0, none⟩) (n + 1) G) ∧
   w' = endGrown w L x y n G := by
 obtain ⟨i0, hi0, hz0, hzs, hzb⟩ := info_parts info158
 have hsrc : Src Tryz.prog i0.size 130 (.slice (some ⟨vb, 0, none⟩) 1 1) 1 [x, y] w := by
  rw [hzs]
  exact Src.ofSlice w Tryz.underlying130 ⟨vb, 0, none⟩ 1 1 [x, y] rfl (fun j u hj => by rw [add_off, Nat.zero_add, hv.cell]; simpa using hj) h2
 have hold : (Builtin.firstCells i0.size n (.slice base n c)).run Tryz.prog w.drew = .ok L.toArray w.drew := by
  rw [hzs]
  cases base with
  | none =>
   have h0 := hnil rfl
   subst h0
   rw [List.length_eq_zero_iff.1 hL]
   exact run_firstCells_none w.drew 2 0 0 c
  | some a =>
   obtain ⟨g, off, cs, rfl, hg, hLc⟩ := hLc a rfl
   exact run_firstCells_some w.drew 2 n ⟨g, off, none⟩ n c L hL (fun j v hj => by rw [add_off]; exact (hg.drew.cell _).trans (hLc j v hj))
 have hrun : ∀ ty, (Builtin.append_ #[130, 130] ty #[.slice base n c, .slice (some ⟨vb, 0, none⟩) 1 1]).run Tryz.prog w = .ok (.slice (some ⟨w.heap.size, 0, none⟩) (n + 1) (grownCap w (n + 1) c 158)) (w.drew.alloc (.cells ((L ++ [x, y]).toArray ++ Builtin.zeroCells zOff.cells (grownCap w (n + 1) c 158 - (n + 1))) 158)) := fun ty =>
  run_append_grow_src w 130 130 ty 158 i0 _ Tryz.underlying130 hi0 hz0 base n c L hold _ 1 [x, y] hsrc hroom (by omega) (by rw [hzb]; exact growslice_fits hroom hbig)
 have hGn : n + 1 ≤ grownCap w (n + 1) c 158 := grownCap_ge w _ _ _
 have hGm := grownCap_le_maxLen w (n + 1) c 158 (by unfold maxLen; omega)
 obtain ⟨G, hG⟩ : ∃ G, G = grownCap w (n + 1) c 158 := ⟨_, rfl⟩
 rw [← hG] at hrun hGn hGm
 have hnn : n ≤ n := Nat.le_refl _
 obtain ⟨Z, hZ⟩ : ∃ Z, Z = endGrown w L x y n G := ⟨_, rfl⟩
 have hrun2 : ∀ ty, (Builtin.append_ #[130, 130] ty #[.slice base n c, .slice (some ⟨vb, 0, none⟩) 1 1]).run Tryz.prog w = .ok (.slice (some ⟨w.heap.size, 0, none⟩) (n + 1) G) Z := fun ty => by rw [hZ]; exact hrun ty
 clear hrun
 have HZ := Lib.hid hZ
 clear hsrc hi0 hz0 hzs hzb hold hG hZ
 cases base with
 | none =>
  have h0 := hnil rfl
  subst h0
  go_enter Tryz.func138, Tryz.ntmps138
  go_wp2_with (at_builtin; refine Lib.wpList_append_run _ rfl _ _ _ _ rfl _ _ rfl rfl _ _ (hrun2 _) ?_)
  go_ret
  exact ⟨G, hGn, hGm, rfl, HZ.out⟩
 | some a =>
  have hci : c = n := by omega
  obtain ⟨g, off, cs, rfl, _, _⟩ := hLc a rfl
  subst hci
  clear hLc
  go_enter Tryz.func138, Tryz.ntmps138
  go_wp2_with (at_builtin; refine Lib.wpList_append_run _ rfl _ _ _ _ rfl _ _ rfl rfl _ _ (hrun2 _) ?_)
  go_ret
  exact ⟨G, hGn, hGm, rfl, HZ.out⟩
end Go.Proofs.YtodnlcbnbkkanaaGreatDoor
end
section
namespace Go.Proofs.YtodnlcbnbkkanaaGreatDoor
open Go Go.RowKit

structure Off where
 sort : Nat
 b : Nat
 t : List UInt8
def offC (o : Off) : Array Value := #[.int .i64 o.sort, .pointer (some ⟨o.b, 0, none⟩)]
theorem offC_size (o : Off) : (offC o).size = 2 := rfl

def SegAt (cs : Array Value) (k : Nat) (l : List Value) : Prop := ∀ j v, l[j]? = some v → cs[k + j]? = some v
theorem SegAt.append {cs : Array Value} {k : Nat} {A B : List Value} (h : SegAt cs k A) (g : SegAt cs (k + A.length) B) : SegAt cs k (A ++ B) := fun j v hj => by
 rw [List.getElem?_append] at hj
 split at hj
 ·exact h j v hj
 ·next hl =>
  have := g _ v hj
  rwa [show k + A.length + (j - A.length) = k + j by omega] at this
theorem SegAt.left {cs : Array Value} {k : Nat} {A B : List Value} (h : SegAt cs k (A ++ B)) : SegAt cs k A := fun j v hj => h j v (by
 have := (List.getElem?_eq_some_iff.1 hj).1
 rw [List.getElem?_append_left this]; exact hj)
theorem SegAt.right {cs : Array Value} {k : Nat} {A B : List Value} (h : SegAt cs k (A ++ B)) : SegAt cs (k + A.length) B := fun j v hj => by
 rw [Nat.add_assoc]
 exact h _ v (by rw [List.getElem?_append_right (by omega), Nat.add_sub_cancel_left]; exact hj)
theorem SegAt.put {cs : Array Value} {k : Nat} {l : List Value} (h : k + l.length ≤ cs.size) : SegAt (putC cs k l) k l := fun j v hj => putC_in _ _ _ _ _ hj h
theorem SegAt.out {cs : Array Value} {m k : Nat} {A l : List Value} (h : SegAt cs m A) (hk : m + A.length ≤ k ∨ k + l.length ≤ m) : SegAt (putC cs k l) m A := fun j v hj => by
 have := (List.getElem?_eq_some_iff.1 hj).1
 rw [putC_out _ _ _ _ (by omega)]
 exact h j v hj
theorem cellsL_app {α : Type} (cs : α → Array Value) (A B : List α) : cellsL cs (A ++ B) = cellsL cs A ++ cellsL cs B := by simp [cellsL]
theorem cellsL_take (os : List Off) (i : Nat) (hi : i ≤ os.length) : (cellsL offC os).take (i * 2) = cellsL offC (os.take i) := by
 have h := cellsL_app offC (os.take i) (os.drop i)
 rw [List.take_append_drop] at h
 rw [h, List.take_left' (by rw [cellsL_length offC_size, List.length_take]; simp only [Nat.min_def]; split <;> omega)]
theorem cellsL_drop (os : List Off) (i : Nat) (hi : i ≤ os.length) : (cellsL offC os).drop (i * 2) = cellsL offC (os.drop i) := by
 have h := cellsL_app offC (os.take i) (os.drop i)
 rw [List.take_append_drop] at h
 rw [h, List.drop_left' (by rw [cellsL_length offC_size, List.length_take]; simp only [Nat.min_def]; split <;> omega)]

def OffRow (n0 : Nat) (W : World) (v : Value) (os : List Off) : Prop :=
 (v = .slice none 0 0 ∧ os = []) ∨ ∃ g off cap cs, v = .slice (some ⟨g, off, none⟩) os.length cap ∧ n0 ≤ g ∧ Blk W g 158 cs ∧ os.length ≤ cap ∧ cap ≤ 9223372036854775807 ∧ off + cap * 2 ≤ cs.size ∧ SegAt cs off (cellsL offC os)
theorem off_one (os : List Off) : ∀ v ∈ cellsL offC os, v.oneCell' = true := fun v hv => by
 unfold cellsL at hv
 obtain ⟨o, _, ho⟩ := List.mem_flatMap.1 hv
 simp [offC] at ho
 rcases ho with rfl | rfl <;> rfl

theorem grown_drew (W : World) (r : Option Nat) : W.grownBy W.drew r := ⟨rfl, rfl, rfl, Nat.le_refl _, fun _ _ _ => rfl⟩

theorem insert_any (n0 : Nat) (v : Value) (os : List Off) (o : Off) (i vb : Nat) (w : World) (hi : i ≤ os.length) (hO : OffRow n0 w v os) (hn0 : n0 ≤ w.heap.size) (hv : Blk w vb 158 (offC o)) (hne : some vb ≠ v.ownBlock) (hlen : os.length ≤ 1000000) :
  Calls Tryz.prog 138 #[v, .int .i64 i, .slice (some ⟨vb, 0, none⟩) 1 1] w fun e w' => ∃ v', e = .returned v' ∧ OffRow n0 w' v' (os.take i ++ o :: os.drop i) ∧ w.grownBy w' v.ownBlock := by
 have hin : ∀ W : World, W.heap.size = W.heap.size := fun _ => rfl
 have h2 : ∀ u ∈ [Value.int .i64 o.sort, Value.pointer (some ⟨o.b, 0, none⟩)], u.oneCell' = true := fun u hu => by simp at hu; rcases hu with rfl | rfl <;> rfl
 have hL : (cellsL offC os).length = os.length * 2 := cellsL_length offC_size os
 have hlen2 : (os.take i ++ o :: os.drop i).length = os.length + 1 := by simp; omega
 have hcl : cellsL offC (os.take i ++ o :: os.drop i) = (cellsL offC os).take (i * 2) ++ ([Value.int .i64 o.sort, Value.pointer (some ⟨o.b, 0, none⟩)] ++ (cellsL offC os).drop (i * 2)) := by
  rw [cellsL_app, show o :: os.drop i = [o] ++ os.drop i from rfl, cellsL_app, cellsL_take os i hi, cellsL_drop os i hi]
  rfl
 have htl : ((cellsL offC os).take (i * 2)).length = i * 2 := by rw [List.length_take, hL]; simp only [Nat.min_def]; split <;> omega
 have hdl : ((cellsL offC os).drop (i * 2)).length = (os.length - i) * 2 := by rw [List.length_drop, hL]; omega
 rcases hO with ⟨rfl, rfl⟩ | ⟨g, off, cap, cs, rfl, hg0, hg, hc, hc63, hsz, hseg⟩
 ·obtain rfl : i = 0 := by simpa using hi
  refine (ins_end_grow none 0 0 vb [] _ _ w (Nat.le_refl _) (by omega) (by omega) rfl (fun _ => rfl) (fun a h => by cases h) hv h2).mono ?_
  rintro e w' ⟨G, hG1, hG2, rfl, rfl⟩
  refine ⟨_, rfl, .inr ⟨w.heap.size, 0, G, _, rfl, hn0, Blk.new w.drew 158 _, hG1, hG2, ?_, ?_⟩, ?_⟩
  ·simp [Builtin.zeroCells, zOff_cells]; omega
  ·intro j u hj
   rw [hcl] at hj
   simp [cellsL] at hj
   have hj2 := (List.getElem?_eq_some_iff.1 hj).1
   simp at hj2
   rw [Nat.zero_add, Array.getElem?_append_left (by simpa using hj2)]
   simpa using hj
  ·exact grown_trans (grown_drew w none) (World.grownBy_alloc w.drew _ none)
 ·have hcase : i < os.length ∨ i = os.length := by omega
  have hsplit : SegAt cs off ((cellsL offC os).take (i * 2) ++ (cellsL offC os).drop (i * 2)) := by rw [List.take_append_drop]; exact hseg
  rcases hcase with hlt | rfl
  ·by_cases hroom : os.length + 1 ≤ cap
   ·refine (ins_shift g off os.length cap i vb (cellsL offC os) _ _ cs w hlt hroom hc63 hg hL hseg (by omega) hv (by simpa [Value.ownBlock] using hne) (off_one os) h2).mono ?_
    rintro e w' ⟨rfl, rfl⟩
    have hB := Blk.setCells [Value.int .i64 o.sort, Value.pointer (some ⟨o.b, 0, none⟩)] (off + i * 2) (Blk.setCells ((cellsL offC os).drop (i * 2)) (off + (i + 1) * 2) hg.drew)
    refine ⟨_, rfl, .inr ⟨g, off, cap, _, by rw [hlen2], hg0, hB, by omega, hc63, by rw [putC_size, putC_size]; exact hsz, ?_⟩, ?_⟩
    ·rw [hcl]
     refine SegAt.append ((hsplit.left.out (.inl (by rw [htl]; omega))).out (.inl (by rw [htl]; omega))) (SegAt.append ?_ ?_)
     ·rw [htl]
      exact SegAt.put (by rw [putC_size]; simp; omega)
     ·rw [htl]
      have := SegAt.put (cs := cs) (k := off + (i + 1) * 2) (l := (cellsL offC os).drop (i * 2)) (by rw [hdl]; omega)
      have h3 := this.out (k := off + i * 2) (l := [Value.int .i64 o.sort, Value.pointer (some ⟨o.b, 0, none⟩)]) (.inr (by simp; omega))
      rw [show off + i * 2 + [Value.int .i64 o.sort, Value.pointer (some ⟨o.b, 0, none⟩)].length = off + (i + 1) * 2 by simp; omega]
      exact h3
    ·exact grown_trans (grown_drew w (some g)) (grown_trans (grown_setCells g _ _ w.drew) (grown_setCells g _ _ _))
   ·refine (ins_grow g off os.length cap i vb (cellsL offC os) _ _ cs w hlt hc (by omega) (by omega) hg hL hseg hv (off_one os) h2).mono ?_
    rintro e w' ⟨G, hG1, hG2, rfl, rfl⟩
    obtain ⟨ROW, hROW⟩ : ∃ ROW : Array Value, ROW = ((cellsL offC os).take (i * 2)).toArray ++ Builtin.zeroCells zOff.cells (os.length + 1 - i) ++ Builtin.zeroCells zOff.cells (G - (os.length + 1)) := ⟨_, rfl⟩
    rw [← hROW]
    have hRs : ROW.size = G * 2 := by rw [hROW]; simp [Builtin.zeroCells, zOff_cells, hL]; omega
    have hR0 : SegAt ROW 0 ((cellsL offC os).take (i * 2)) := fun j u hj => by
     have hj2 := (List.getElem?_eq_some_iff.1 hj).1
     rw [hROW, Nat.zero_add, Array.append_assoc, Array.getElem?_append_left (by simpa using hj2)]
     simpa using hj
    have hB := Blk.setCells ((cellsL offC os).drop (i * 2)) ((i + 1) * 2) (Blk.drew (Blk.setCells [Value.int .i64 o.sort, Value.pointer (some ⟨o.b, 0, none⟩)] (i * 2) (Blk.new w 158 ROW).drew))
    refine ⟨_, rfl, .inr ⟨w.heap.size, 0, G, _, by rw [hlen2], hn0, hB, by rw [hlen2]; exact hG1, hG2, by rw [putC_size, putC_size, hRs]; omega, ?_⟩, ?_⟩
    ·rw [hcl]
     refine SegAt.append ((hR0.out (.inl (by rw [htl]; omega))).out (.inl (by rw [htl]; omega))) (SegAt.append ?_ ?_)
     ·rw [htl, Nat.zero_add]
      exact (SegAt.put (by simp [hRs]; omega)).out (.inl (by simp; omega))
     ·rw [htl]
      rw [show 0 + i * 2 + [Value.int .i64 o.sort, Value.pointer (some ⟨o.b, 0, none⟩)].length = (i + 1) * 2 by simp; omega]
      exact SegAt.put (by rw [putC_size, hRs, hdl]; omega)
    ·have h1 : w.grownBy (w.alloc (.cells ROW 158)).drew (some g) := grown_trans (World.grownBy_alloc w _ _) (grown_drew _ _)
     exact h1.andThen (grown_trans (grown_setCells w.heap.size _ _ _) (grown_trans (grown_drew _ _) (grown_setCells w.heap.size _ _ _))) (fun j e => .inl (by cases e; exact Nat.le_refl _))
  ·by_cases hroom : os.length + 1 ≤ cap
   ·refine (ins_end_room g off os.length cap vb _ _ cs w hroom hc63 hg (by omega) hv h2).mono ?_
    rintro e w' ⟨rfl, rfl⟩
    have hB := Blk.setCells [Value.int .i64 o.sort, Value.pointer (some ⟨o.b, 0, none⟩)] (off + os.length * 2) hg
    refine ⟨_, rfl, .inr ⟨g, off, cap, _, by rw [hlen2], hg0, hB, by omega, hc63, by rw [putC_size]; exact hsz, ?_⟩, grown_setCells g _ _ w⟩
    rw [hcl]
    refine SegAt.append (hsplit.left.out (.inl (by rw [htl]; omega))) (SegAt.append ?_ ?_)
    ·rw [htl]
     exact SegAt.put (by simp; omega)
    ·intro j u hj
     rw [List.drop_of_length_le (by rw [hL]; omega)] at hj
     simp at hj
   ·refine (ins_end_grow (some ⟨g, off, none⟩) os.length cap vb (cellsL offC os) _ _ w hc (by omega) (by omega) hL (fun h => by cases h) (fun a h => ⟨g, off, cs, (Option.some.inj h).symm, hg, hseg⟩) hv h2).mono ?_
    rintro e w' ⟨G, hG1, hG2, rfl, rfl⟩
    refine ⟨_, rfl, .inr ⟨w.heap.size, 0, G, _, by rw [hlen2], hn0, Blk.new w.drew 158 _, by omega, hG2, ?_, ?_⟩, grown_trans (grown_drew w (some g)) (World.grownBy_alloc w.drew _ _)⟩
    ·simp [Builtin.zeroCells, zOff_cells, hL]; omega
    ·intro j u hj
     rw [hcl, List.take_of_length_le (by rw [hL]; omega), List.drop_of_length_le (by rw [hL]; omega), List.append_nil] at hj
     have hj2 := (List.getElem?_eq_some_iff.1 hj).1
     rw [Nat.zero_add, Array.getElem?_append_left (by simpa using hj2)]
     simpa using hj
end Go.Proofs.YtodnlcbnbkkanaaGreatDoor
end
