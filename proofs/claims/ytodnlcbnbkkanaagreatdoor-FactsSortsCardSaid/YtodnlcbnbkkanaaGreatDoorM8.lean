import Derived.Lib.Builder
import Derived.Lib.UnsafeStr
import Derived.Lib.AppendStr
import Derived.RegionTactic
import Derived.BigRegion
import Derived.Lib.Bytealg
import Derived.LaidEqlPtr
import Derived.Test.YtodnlcbnbkkanaaGreatDoorM7
section
namespace Go.Proofs.YtodnlcbnbkkanaaGreatDoor
open Go Go.RowKit Go.Maps

/-- Sorts that lead back to themselves. -/
def LeadE (g : GramM) (M L : List Bool) (k t : Nat) : Prop := LeadU g M (livL g L) (livL g L).length 0 ((k : Int), (t : Int))
def CircP (g : GramM) (R : List Bool) : Prop := R.length = g.sorts.length ∧ ∃ M L, NullP g M ∧ Live g L ∧ ∀ k : Nat, k < g.sorts.length → (R[k]? = some true ↔ Far (LeadE g M L) k k)
/-- What a round of the range over leads holds. -/
structure CR (w : World) (N B n nn b r : Nat) (K L : Int × Int → Prop) (cnt : Nat) (vals : List Value) (rows : List (List Int)) (W : World) : Prop where
  rg : RangeL W b r nn K L cnt
  nx : NX w N B n vals rows W
  lt : b < N ∧ r < N ∧ b ≠ B ∧ r ≠ B
  mem : ∀ (k : Nat) (t : Int), (∃ rr, rows[k]? = some rr ∧ t ∈ rr) ↔ (K ((k : Int), t) ∧ ¬ L ((k : Int), t))
  len : ∀ rr, rr ∈ rows → rr.length + cnt ≤ nn
  sub : ∀ p, L p → K p

theorem bools_setv (L : List Bool) (i : Nat) (b : Bool) : (bools L).setIfInBounds i (.bool b) = bools (L.set i b) := by
  unfold bools
  rw [List.setIfInBounds_toArray, List.map_set]
open Go.Vals
section
variable {w : World} {o : Oper} {ρ : Operand → Value}
theorem ix111 {x y : Operand} {g f n c k q : Nat} (ho : o.op = .indexAddr 111 x y) (hx : ρ x = .slice (some ⟨g, f, none⟩) n c) (hy : ρ y = .int .i64 (k : Int)) (hk : k < n) (hq : f + k = q) : (execOp ρ o).run Tryz.prog w = .ok (.value (.pointer (some ⟨g, q, none⟩))) w := by
  subst hq
  unfold execOp; rw [ho]; simp only [hx, hy]
  have h0 : (0 : Int) ≤ k := by omega
  have h1 : (k : Int) < n := by omega
  go_simp
theorem fa115_0 {x : Operand} {g m : Nat} (ho : o.op = .fieldAddr 115 x 0) (hx : ρ x = .pointer (some ⟨g, m, none⟩)) : (execOp ρ o).run Tryz.prog w = .ok (.value (.pointer (some ⟨g, m, none⟩))) w := by
  unfold execOp; rw [ho]; simp only [hx]
  go_simp
theorem fa115_1 {x : Operand} {g m : Nat} (ho : o.op = .fieldAddr 115 x 1) (hx : ρ x = .pointer (some ⟨g, m, none⟩)) : (execOp ρ o).run Tryz.prog w = .ok (.value (.pointer (some ⟨g, m + 1, none⟩))) w := by
  unfold execOp; rw [ho]; simp only [hx]
  go_simp
theorem bs48 {x : Operand} {a : Int} (ho : o.op = .buildSlice 48 1 #[(0, x)]) (hx : ρ x = .int .i64 a) : (execOp ρ o).run Tryz.prog w = .ok (.value (.slice (some ⟨w.heap.size, 0, none⟩) 1 1)) (w.alloc (.cells #[.int .i64 a] 3)) := by
  unfold execOp; rw [ho]; simp only [List.map_toArray, List.map_cons, List.map_nil, hx]
  go_simp
theorem st48 {x y : Operand} {b i n c : Nat} {u : Value} {q : Option Addr} (ho : o.op = .store 48 x y) (hx : ρ x = .pointer (some ⟨b, i, none⟩)) (hy : ρ y = .slice q n c) (hc : w.cell? ⟨b, i, none⟩ = some u) (hf : w.frozen? ⟨b, i, none⟩ = false) (hl : b < w.heap.size) : (execOp ρ o).run Tryz.prog w = .ok .skip (w.setCell ⟨b, i, none⟩ (.slice q n c)) := by
  unfold execOp; rw [ho]; simp only [hx, hy]
  go_simp
end

set_option maxRecDepth 100000 in
set_option maxHeartbeats 8000000 in
theorem circular_any (g : GramM) (hm : MayB g) (hf : Fit g) (w : World) (hg : GIn w g) : Calls Tryz.prog 49 #[gramV g] w (MarksPost w (CircP g)) := by
  obtain ⟨i3, ti3, tz3, ts3, tb3⟩ := info_parts Tryz.info3
  have hmk := fun w' => make_bools g.sorts.length hm.sorts2 w'
  have hmr := fun w' => make_rows g.sorts.length hm.sorts2 w'
  obtain ⟨RL, hRL⟩ : ∃ RL : List Bool, RL = List.replicate g.sorts.length false := ⟨_, rfl⟩
  obtain ⟨VL, hVL⟩ : ∃ VL : List Value, VL = List.replicate g.sorts.length (.slice none 0 0) := ⟨_, rfl⟩
  rw [← hRL] at hmk
  rw [← hVL] at hmr
  obtain ⟨W1, hW1⟩ : ∃ W1, W1 = (w.alloc (.cells (gramC g) 27)).alloc (.cells VL.toArray 48) := ⟨_, rfl⟩
  have k0 : Blk W1 w.heap.size 27 (gramC g) := by rw [hW1]; exact (Blk.new w 27 (gramC g)).alloc _
  have k1 : Blk W1 (w.heap.size + 1) 48 VL.toArray := by rw [hW1]; have := Blk.new (w.alloc (.cells (gramC g) 27)) 48 VL.toArray; rwa [World.size_alloc] at this
  have hs1 : W1.heap.size = w.heap.size + 2 := by rw [hW1]; simp
  have hB1 : Below w.heap.size w W1 := by rw [hW1]; exact ((Below.refl _ w).alloc (Nat.le_refl _) _).alloc (by simp) _
  have HLd := Lib.hid (leads_any g hm hf W1 (hg.below hB1))
  have HMB := Lib.hid hm
  have HK0 := Lib.hid k0
  have HK1 := Lib.hid k1
  have HB1 := Lib.hid hB1
  have Hs1 := Lib.hid hs1
  have HW1 := Lib.hid hW1
  have HRL := Lib.hid hRL
  have HVL := Lib.hid hVL
  obtain ⟨n, hn⟩ : ∃ n, n = g.sorts.length := ⟨_, rfl⟩
  have Hn := Lib.hid hn
  have hn2 := hm.sorts2
  clear hm hf hg k0 k1 hs1 hB1 hW1 hRL hVL
  unfold gramV gramC at *
  rw [← hn] at hn2 hmk hmr HLd HK0 HW1 ⊢
  clear hn
  go_enter Tryz.func49, Tryz.ntmps49
  go_upto_region 2 with (fail)
  rw [← HW1.out]
  have c0 := HK0.out.cell 0
  have c1 := HK0.out.cell 1
  have c2 := HK0.out.cell 2
  have c3 := HK0.out.cell 3
  have c4 := HK0.out.cell 4
  have l0 := HK0.out.lt
  go_wp2_with fail
  refine HLd.out.mono ?_
  rintro e w3 ⟨b, nn, M, L, hM, hL, rfl, hbl, hmp, hnn, hB3⟩
  have hB3w : Below w.heap.size w w3 := HB1.out.trans (hB3.mono HB1.out.size)
  have HK03 := Lib.hid (HK0.out.below hB3 HK0.out.lt)
  have HK13 := Lib.hid (HK1.out.below hB3 HK1.out.lt)
  have HM := Lib.hid hM
  have HL := Lib.hid hL
  have hs3 := hB3.size
  have hbN := hmp.lt
  have HBw := Lib.hid hB3w
  have HKK : Hid (∀ p, LeadU g M (livL g L) (livL g L).length 0 p → ∃ k t : Nat, p = ((k : Int), (t : Int)) ∧ k < n ∧ t < n) := Lib.hid fun p ⟨j', i', x, h1, _, s, h2, h3, _, h4⟩ => by
    have hx := (livL_mem.1 (List.mem_of_getElem? h1)).1
    obtain ⟨k, hk, hkn⟩ := HMB.out.left x hx
    obtain ⟨t, ht, htn⟩ := HMB.out.sym x hx s (List.mem_of_getElem? h2) h3
    exact ⟨k, t, by rw [h4, hk, ht], by rw [Hn.out]; exact hkn, by rw [Hn.out]; exact htn⟩
  have HCE : Hid (∀ R : List Bool, R.length = n → (∀ k : Nat, k < n → (R[k]? = some true ↔ Far (LeadE g M L) k k)) → CircP g R) := Lib.hid fun R h1 h2 => ⟨h1.trans Hn.out, M, L, HM.out, HL.out, fun k hk => h2 k (by rw [Hn.out]; exact hk)⟩
  obtain ⟨K, hK⟩ : ∃ K, K = LeadU g M (livL g L) (livL g L).length 0 := ⟨_, rfl⟩
  have HKE : Hid (∀ k t : Nat, LeadE g M L k t ↔ K ((k : Int), (t : Int))) := Lib.hid fun k t => by rw [hK]; exact Iff.rfl
  rw [← hK] at hmp HKK
  have hbs : w.heap.size + 2 ≤ b := by have := Hs1.out; omega
  clear hM hL hB3 hB3w hK HLd HB1 HMB c0 c1 c2 c3 c4 l0
  go_wp2_with (first
    | (at_range; refine wpList_rangeL _ rfl _ rfl b nn K rfl hmp ?_; intro w4 cnt4 hrg4 hc4 hg4 hs4)
    | go_in)
  have hB4 : Below w.heap.size w w4 := HBw.out.grown hg4 HBw.out.size (fun j e => by cases e)
  have hnil : ∀ k v, VL[k]? = some v → v = (Value.slice none 0 0) := fun k v hv => by
    rw [HVL.out, List.getElem?_replicate] at hv
    split at hv <;> simp at hv
    exact hv.symm
  have hNX : NX w w4.heap.size (w.heap.size + 1) n VL (List.replicate n []) w4 := by
    refine ⟨HK13.out.kept hg4 (by simp), by rw [HVL.out, List.length_replicate, Hn.out], by simp, fun k v r hv hr => ?_, fun i j u v g hu hv h1 _ => ?_, hB4, by omega, by omega, Nat.le_refl _⟩
    · rw [hnil k v hv]
      rw [List.getElem?_replicate] at hr
      split at hr <;> simp at hr
      subst hr
      exact ⟨rfl, .inl ⟨rfl, rfl⟩⟩
    · rw [hnil i u hu] at h1; cases h1
  have HCR : Hid (CR w w4.heap.size (w.heap.size + 1) n nn b w3.heap.size K K cnt4 VL (List.replicate n []) w4) := Lib.hid ⟨hrg4, hNX, by omega, fun k t => by
    constructor
    · rintro ⟨rr, h1, h2⟩
      rw [List.getElem?_replicate] at h1
      split at h1 <;> simp at h1
      subst h1; cases h2
    · rintro ⟨h1, h2⟩
      exact absurd h1 h2, fun rr h => by rw [List.eq_of_mem_replicate h]; simpa using hc4, fun p h => h⟩
  have HG4 := Lib.hid (HK03.out.kept hg4 (by simp))
  obtain ⟨N, hN⟩ : ∃ N, N = w4.heap.size := ⟨_, rfl⟩
  obtain ⟨r, hr⟩ : ∃ r, r = w3.heap.size := ⟨_, rfl⟩
  rw [← hN, ← hr] at HCR
  rw [← hr]
  have hlt1 : b < r := by omega
  clear hrg4 hc4 hg4 hB4 hnil hNX HK03 HK13 hN hr hs4 hmp HBw hbN hs3
  go_frame
  go_loopw [14] (fun _ wr => ∃ (Lf : Int × Int → Prop) (cnt : Nat) (vals : List Value) (rows : List (List Int)), Hid (CR w N (w.heap.size + 1) n nn b r K Lf cnt vals rows wr) ∧ Hid (Blk wr w.heap.size 27 #[.slice g.sa n g.sc, .slice g.pa g.prods.length g.pc, .int .i64 g.start, .slice g.fa g.forbid.length g.fc, .slice g.wa g.follow.length g.wc]))
    (fun _ wr => wr.rangeLeft b r)
  case atStart => exact ⟨K, cnt4, VL, List.replicate n [], HCR, HG4⟩
  case round =>
    clear HCR HG4
    obtain ⟨Lf, cnt, vals, rows, KC, KG⟩ := hrel
    go_wp2_with (first
      | (at_next; refine wpList_nextL _ rfl _ rfl b r nn cnt K Lf rfl KC.out.rg ?_ ?_)
      | go_in)
    · intro hc0 hl0
      have HNx := Lib.hid KC.out.nx.next
      have HBl := Lib.hid KC.out.nx.low
      have hbB := KC.out.nx.blk.lt
      have HSE : Hid (stepE rows = LeadE g M L) := Lib.hid (funext fun k => funext fun t => propext (by
        rw [HKE.out k t]
        unfold stepE
        rw [KC.out.mem k t]
        exact ⟨fun h => h.1, fun h => ⟨h, hl0 _ _⟩⟩))
      have HLen : Hid (∀ r, r ∈ rows → r.length ≤ 100000) := Lib.hid fun r hr => by have := KC.out.len r hr; omega
      have HIn : Hid (∀ r, r ∈ rows → ∀ t, t ∈ r → ∃ k : Nat, t = k ∧ k < n) := Lib.hid fun r hr t ht => by
        obtain ⟨k, hk⟩ := List.mem_iff_getElem?.1 hr
        obtain ⟨h1, _⟩ := (KC.out.mem k t).1 ⟨r, hk, ht⟩
        obtain ⟨k', t', e, _, h2⟩ := HKK.out _ h1
        exact ⟨t', by simpa using congrArg Prod.snd e, h2⟩
      have HRl : Hid (RL.length = n) := Lib.hid (by rw [HRL.out, List.length_replicate, Hn.out])
      have HBlk := Lib.hid KG.out
      have c0 := KG.out.cell 0
      have l0 := KG.out.lt
      clear KC hl0 hc0 KG
      go_upto_region 7 with (fail)
      have HJ0 : Hid (Below w.heap.size w (wr.alloc (.cells (bools RL) 4)) ∧ Below wr.heap.size wr (wr.alloc (.cells (bools RL) 4)) ∧ Blk (wr.alloc (.cells (bools RL) 4)) wr.heap.size 4 (bools RL) ∧ RL.length = n ∧ ∀ k : Nat, k < 0 → (RL[k]? = some true ↔ Far (stepE rows) k k)) :=
        Lib.hid ⟨HBl.out.alloc HBl.out.size _, (Below.refl _ _).alloc (Nat.le_refl _) _, Blk.new wr 4 _, HRl.out, fun k hk => by omega⟩
      have hBo : w.heap.size ≤ wr.heap.size := HBl.out.size
      obtain ⟨Bo, hBoe⟩ : ∃ Bo, Bo = wr.heap.size := ⟨_, rfl⟩
      rw [← hBoe] at HJ0 hBo ⊢
      obtain ⟨wx, hwx⟩ : ∃ wx, wx = wr := ⟨_, rfl⟩
      have HBoe : Hid (Bo = wx.heap.size) := Lib.hid (by rw [hwx]; exact hBoe)
      have HNx2 : Hid (NextIn (w.heap.size + 1) vals rows n wx) := Lib.hid (by rw [hwx]; exact HNx.out)
      have HJ0 : Hid (Below w.heap.size w (wr.alloc (.cells (bools RL) 4)) ∧ Below Bo wx (wr.alloc (.cells (bools RL) 4)) ∧ Blk (wr.alloc (.cells (bools RL) 4)) Bo 4 (bools RL) ∧ RL.length = n ∧ ∀ k : Nat, k < 0 → (RL[k]? = some true ↔ Far (stepE rows) k k)) := Lib.hid (by rw [hwx]; exact HJ0.out)
      clear hwx
      have hBB : w.heap.size + 1 < Bo := by omega
      clear hBoe HNx HBl HRl HBlk c0 l0 hbB
      go_wp2
      go_loopw [37] (fun vj wr => ∃ (j : Nat) (R : List Bool), vj = .int .i64 j ∧ j ≤ n ∧ Hid (Below w.heap.size w wr ∧ Below Bo wx wr ∧ Blk wr Bo 4 (bools R) ∧ R.length = n ∧ ∀ k : Nat, k < j → (R[k]? = some true ↔ Far (stepE rows) k k))) (fun vj _ => n - (intOf vj).toNat)
      case atStart => exact ⟨0, RL, rfl, Nat.zero_le _, HJ0⟩
      case round =>
        clear HJ0
        obtain ⟨j, R, rfl, hj, KJ⟩ := hrel
        by_cases hjn : j < n
        · have HC := Lib.hid (comesBack_any vals rows n (w.heap.size + 1) j wr hn2 (HNx2.out.below (HBoe.out ▸ KJ.out.2.1)) HLen.out HIn.out hjn)
          have z1 : (j : Int) < (n : Int) := by omega
          have z0 : (0 : Int) ≤ (j : Int) := by omega
          go_wp2_with fail
          refine HC.out.mono ?_
          rintro e w6 ⟨v, rfl, hv, hB6⟩
          have HV := Lib.hid hv
          have hblk6 := KJ.out.2.2.1.below hB6 KJ.out.2.2.1.lt
          have cB := hblk6.cell j
          rw [bools_at R j (by rw [KJ.out.2.2.2.1]; exact hjn)] at cB
          have fB := hblk6.frozen j
          have lB := hblk6.lt
          have HZ : Hid (Below w.heap.size w (w6.setCell ⟨Bo, j, none⟩ (.bool v)) ∧ Below Bo wx (w6.setCell ⟨Bo, j, none⟩ (.bool v)) ∧ Blk (w6.setCell ⟨Bo, j, none⟩ (.bool v)) Bo 4 (bools (R.set j v)) ∧ (R.set j v).length = n ∧ ∀ k : Nat, k < j + 1 → ((R.set j v)[k]? = some true ↔ Far (stepE rows) k k)) := Lib.hid (by
            refine ⟨(KJ.out.1.trans (hB6.mono KJ.out.1.size)).setCell (p := ⟨Bo, j, none⟩) hBo _, (KJ.out.2.1.trans (hB6.mono (HBoe.out ▸ KJ.out.2.1.size))).setCell (p := ⟨Bo, j, none⟩) (Nat.le_refl _) _, by rw [← bools_setv]; exact hblk6.set j _, by rw [List.length_set]; exact KJ.out.2.2.2.1, fun k hk => ?_⟩
            by_cases e : j = k
            · subst e
              rw [List.getElem?_set_self (by rw [KJ.out.2.2.2.1]; exact hjn)]
              rw [← hv]
              simp
            · rw [List.getElem?_set_ne e]
              exact KJ.out.2.2.2.2 k (by omega))
          clear hv hB6 hblk6 KJ HC
          go_wp2
          go_roundw
          case rel => exact ⟨j + 1, R.set j v, by go_num, by omega, HZ⟩
          case measure => simp [intOf]; omega
        · obtain rfl : j = n := by omega
          have HF := Lib.hid (HCE.out R KJ.out.2.2.2.1 (fun k hk => by rw [← HSE.out]; exact KJ.out.2.2.2.2 k hk))
          have HRn : Hid (R.length = j) := Lib.hid KJ.out.2.2.2.1
          have HB := Lib.hid KJ.out.1
          have HBk := Lib.hid KJ.out.2.2.1
          clear KJ
          go_wp2
          go_ret
          exact ⟨R, Bo, HF.out, by rw [HRn.out]; rfl, hBo, HBk.out, HB.out⟩
    · intro p1 p2 w5 cnt5 hLp hKp hrg5 hlt5 hg5 hs5 hen5
      obtain ⟨k, t, hp, hk, ht⟩ := HKK.out (p1, p2) hKp
      obtain ⟨rfl, rfl⟩ : p1 = k ∧ p2 = t := by simpa using hp
      clear hp
      have hx := KC.out.lt
      have hNX5 : NX w N (w.heap.size + 1) n vals rows w5 := by
        have h := KC.out.nx
        have hx' := h.hx
        have hri : ∀ (k : Nat) (v : Value) (rr : List Int), vals[k]? = some v → rows[k]? = some rr → ∀ g, v.ownBlock = some g → some g ≠ some r := fun k v rr hv hr g hg e => by
          have := own_lt (h.own k v rr hv hr) hg
          cases e
          omega
        exact ⟨h.blk.kept hg5 (by simp; omega), h.vlen, h.rlen, fun k v rr hv hr => own_keep (h.own k v rr hv hr) hg5 (hri k v rr hv hr), h.apart, h.low.grown hg5 h.low.size (fun j e => by cases e; omega), by have := hg5.size; omega⟩
      have hNX6 := hNX5.below (World.grownBy_alloc w5 (.cells #[.int .i64 (k : Int), .int .i64 (t : Int)] 115) none)
      have hbx := Blk.new w5 115 #[.int .i64 (k : Int), .int .i64 (t : Int)]
      have hrg6 := hrg5.alloc (.cells #[.int .i64 (k : Int), .int .i64 (t : Int)] 115)
      have HG6 : Hid (Blk (w5.alloc (.cells #[.int .i64 (k : Int), .int .i64 (t : Int)] 115)) w.heap.size 27 #[.slice g.sa n g.sc, .slice g.pa g.prods.length g.pc, .int .i64 g.start, .slice g.fa g.forbid.length g.fc, .slice g.wa g.follow.length g.wc]) := Lib.hid ((KG.out.kept hg5 (by simp; omega)).alloc _)
      obtain ⟨v, hv⟩ : ∃ v, vals[k]? = some v := ⟨_, List.getElem?_eq_getElem (by rw [hNX6.vlen]; exact hk)⟩
      obtain ⟨rr, hrr⟩ : ∃ rr, rows[k]? = some rr := ⟨_, List.getElem?_eq_getElem (by rw [hNX6.rlen]; exact hk)⟩
      have hrl := KC.out.len rr (List.mem_of_getElem? hrr)
      obtain ⟨W0, hW0⟩ : ∃ W0, W0 = (w5.alloc (.cells #[.int .i64 (k : Int), .int .i64 (t : Int)] 115)).drew := ⟨_, rfl⟩
      have hNX0 : NX w N (w.heap.size + 1) n vals rows W0 := by rw [hW0]; exact hNX6.below (grown_of_below (Below.refl _ _).drew none)
      have hbx0 : Blk W0 w5.heap.size 115 #[.int .i64 (k : Int), .int .i64 (t : Int)] := by rw [hW0]; exact hbx
      have hrg0 : RangeL W0 b r nn K (fun t_1 => Lf t_1 ∧ ¬t_1 = ((k : Int), (t : Int))) cnt5 := by rw [hW0]; exact hrg6.kept (grown_of_below (Below.refl _ _).drew none) (by simp) (by simp)
      have HG0 : Hid (Blk W0 w.heap.size 27 #[.slice g.sa n g.sc, .slice g.pa g.prods.length g.pc, .int .i64 g.start, .slice g.fa g.forbid.length g.fc, .slice g.wa g.follow.length g.wc]) := Lib.hid (by rw [hW0]; exact HG6.out)
      have hNX1 := hNX0.below (World.grownBy_alloc W0 (.cells #[.int .i64 (t : Int)] 3) none)
      have hown1 := hNX1.own k v rr hv hrr
      obtain ⟨va, vc, rfl, _, _⟩ := own_slice hown1
      have hsz0 : N ≤ W0.heap.size := hNX0.hx.2.2
      obtain ⟨g5, cap5, w7, hrun7, hown7, hgr7, hg7, hlt7⟩ := run_append_lies (P := Tryz.prog) (w := W0.alloc (.cells #[.int .i64 (t : Int)] 3)) 48 48 N 3 i3 _ 1 8 Tryz.underlying48 ti3 tz3 ts3 tb3 rfl (by omega) _ rr.length (cellsL intC rr) hown1 ⟨W0.heap.size, 0, none⟩ 1 1 [.int .i64 (t : Int)] rfl (cells_new W0 #[.int .i64 (t : Int)] 3) (fun u hu => by simp at hu; subst hu; rfl) (by omega) (by unfold maxLen; omega) (by omega) (by simp; omega) _ rfl
      have hgb : ∀ g', (Value.slice (some ⟨g5, 0, none⟩) (rr.length + 1) cap5).ownBlock = some g' → (Value.slice va rr.length vc).ownBlock = some g' ∨ (W0.alloc (.cells #[.int .i64 (t : Int)] 3)).heap.size ≤ g' := fun g' hg' => by
        have e : g5 = g' := by simpa [Value.ownBlock] using hg'
        subst e
        rcases hg7 with h | h
        · exact .inl h
        · exact .inr (by omega)
      have hNX8 := hNX1.put hv hrr (t := (t : Int)) (by rw [cellsL_snoc]; exact hown7) hgr7 hgb
      have hvne : ∀ B', B' < N → some B' ≠ (Value.slice va rr.length vc).ownBlock := fun B' hB' e => by
        have := own_lt hown1 e.symm
        omega
      have hpbN : N ≤ w5.heap.size := hNX5.hx.2.2
      have hvx : ∀ B' (cs : Array Value), Blk W0 B' 115 cs → some B' ≠ (Value.slice va rr.length vc).ownBlock := fun B' cs hb' e => by
        rcases (hNX0.own k _ rr hv hrr).2 with ⟨h, _⟩ | ⟨g', cap', cur', h, _, h2, _⟩
        · rw [h] at e; cases e
        · rw [h] at e
          have e2 : B' = g' := by simpa [Value.ownBlock] using e
          subst e2
          have h3 : W0.heap[B']? = some (.cells cs 115 (0, 0)) := hb'
          rw [h2] at h3
          cases h3
      have hrg8 : RangeL (w7.setCell ⟨w.heap.size + 1, k, none⟩ (.slice (some ⟨g5, 0, none⟩) (rr.length + 1) cap5)) b r nn K (fun t_1 => Lf t_1 ∧ ¬t_1 = ((k : Int), (t : Int))) cnt5 :=
        (((hrg0.alloc _).kept hgr7 (hvne b hx.1) (hvne r hx.2.1))).kept (grown_set w7 (w.heap.size + 1) k _) (by simp; omega) (by simp; omega)
      have HG8 : Hid (Blk (w7.setCell ⟨w.heap.size + 1, k, none⟩ (.slice (some ⟨g5, 0, none⟩) (rr.length + 1) cap5)) w.heap.size 27 #[.slice g.sa n g.sc, .slice g.pa g.prods.length g.pc, .int .i64 g.start, .slice g.fa g.forbid.length g.fc, .slice g.wa g.follow.length g.wc]) := Lib.hid (((HG0.out.alloc _).kept hgr7 (hvne _ (by have := hNX0.hx; omega))).other (by show w.heap.size ≠ w.heap.size + 1; omega) _)
      have HL : Hid (∀ W, (∃ s, s < 3 ∧ W = four W0 (W0.alloc (.cells #[.int .i64 (t : Int)] 3)) w7 (w7.setCell ⟨w.heap.size + 1, k, none⟩ (.slice (some ⟨g5, 0, none⟩) (rr.length + 1) cap5)) s) → W.cell? ⟨w5.heap.size, 0, none⟩ = some (.int .i64 (k : Int)) ∧ W.cell? ⟨w5.heap.size, 0 + 1, none⟩ = some (.int .i64 (t : Int)) ∧ W.cell? ⟨w.heap.size + 1, k, none⟩ = some (.slice va rr.length vc)) := Lib.hid fun W hW => by
        have h3 : ∀ V, Blk V w5.heap.size 115 #[.int .i64 (k : Int), .int .i64 (t : Int)] → Blk V (w.heap.size + 1) 48 vals.toArray → V.cell? ⟨w5.heap.size, 0, none⟩ = some (.int .i64 (k : Int)) ∧ V.cell? ⟨w5.heap.size, 0 + 1, none⟩ = some (.int .i64 (t : Int)) ∧ V.cell? ⟨w.heap.size + 1, k, none⟩ = some (.slice va rr.length vc) := fun V h1 h2 => ⟨h1.cell 0, h1.cell 1, by rw [h2.cell, List.getElem?_toArray]; exact hv⟩
        have hx0 := hNX0.hx
        rcases four_lt hW with rfl | rfl | rfl
        · exact h3 _ hbx0 hNX0.blk
        · exact h3 _ (hbx0.alloc _) hNX1.blk
        · exact h3 _ ((hbx0.alloc _).kept hgr7 (hvx _ _ hbx0)) (hNX1.blk.kept hgr7 (hvne _ hx0.2.1))
      have h7c : w7.cell? ⟨w.heap.size + 1, k, none⟩ = some (.slice va rr.length vc) := (HL.out w7 ⟨2, by omega, rfl⟩).2.2
      have h7l : w.heap.size + 1 < w7.heap.size := by have := (hNX1.blk.kept hgr7 (hvne _ hNX0.hx.2.1)).lt; exact this
      have h7f : w7.frozen? ⟨w.heap.size + 1, k, none⟩ = false := (hNX1.blk.kept hgr7 (hvne _ hNX0.hx.2.1)).frozen _
      have HZ : Hid (CR w N (w.heap.size + 1) n nn b r K (fun t_1 => Lf t_1 ∧ ¬t_1 = ((k : Int), (t : Int))) cnt5 (vals.set k (.slice (some ⟨g5, 0, none⟩) (rr.length + 1) cap5)) (rows.set k (rr ++ [(t : Int)])) (w7.setCell ⟨w.heap.size + 1, k, none⟩ (.slice (some ⟨g5, 0, none⟩) (rr.length + 1) cap5))) := Lib.hid ⟨hrg8, hNX8, hx, fun k' t' => by
          have hm := KC.out.mem k' t'
          have hkr := (List.getElem?_eq_some_iff.1 hrr).1
          by_cases e : k = k'
          · subst e
            rw [List.getElem?_set_self hkr]
            constructor
            · rintro ⟨rr', h1, h2⟩
              cases h1
              rcases List.mem_append.1 h2 with h2 | h2
              · obtain ⟨h3, h4⟩ := hm.1 ⟨rr, hrr, h2⟩
                exact ⟨h3, fun h => h4 h.1⟩
              · simp at h2; subst h2
                exact ⟨hKp, fun h => h.2 rfl⟩
            · rintro ⟨h1, h2⟩
              refine ⟨_, rfl, List.mem_append.2 ?_⟩
              by_cases e2 : t' = (t : Int)
              · exact .inr (by simp [e2])
              · obtain ⟨r2, h3, h4⟩ := hm.2 ⟨h1, fun h => h2 ⟨h, fun e3 => e2 (by simpa using e3)⟩⟩
                rw [hrr] at h3; cases h3
                exact .inl h4
          · rw [List.getElem?_set_ne e, hm]
            constructor
            · rintro ⟨h1, h2⟩; exact ⟨h1, fun h => h2 h.1⟩
            · rintro ⟨h1, h2⟩; exact ⟨h1, fun h => h2 ⟨h, fun e3 => e (by have := congrArg Prod.fst e3; simp at this; omega)⟩⟩,
        fun r' hr' => by
          rcases List.mem_or_eq_of_mem_set hr' with h | rfl
          · have := KC.out.len r' h; omega
          · rw [List.length_append]; simp; omega,
        fun p hp => KC.out.sub p hp.1⟩
      have HMe : Hid ((w7.setCell ⟨w.heap.size + 1, k, none⟩ (.slice (some ⟨g5, 0, none⟩) (rr.length + 1) cap5)).rangeLeft b r = cnt5 ∧ wr.rangeLeft b r = cnt) := Lib.hid ⟨hrg8.left_eq, KC.out.rg.left_eq⟩
      have HW0 := Lib.hid hW0
      have hs5' := hs5
      unfold leadV at hen5
      dsimp only at hen5
      clear hNX5 hNX6 hbx hrg6 HG6 hNX0 hbx0 hrg0 HG0 hNX1 hown1 hown7 hgr7 hg7 hgb hNX8 hvne hvx hrg8 hv hrr hrl hW0 KC KG hsz0 hrg5 hLp hKp hg5 hpbN hlt7
      go_upto_region 5 with (fail)
      rw [← hs5']
      refine wp_region_chain [10, 11, 13] 13 (four W0 (W0.alloc (.cells #[.int .i64 (t : Int)] 3)) w7 (w7.setCell ⟨w.heap.size + 1, k, none⟩ (.slice (some ⟨g5, 0, none⟩) (rr.length + 1) cap5)))
        [.slice (some ⟨w.heap.size + 1, 0, none⟩) n n, .pointer (some ⟨w5.heap.size, 0, none⟩), .int .i64 (k : Int), .slice (some ⟨w.heap.size + 1, 0, none⟩) n n, .pointer (some ⟨w5.heap.size, 0, none⟩), .int .i64 (k : Int), .pointer (some ⟨w.heap.size + 1, k, none⟩), .slice va rr.length vc, .pointer (some ⟨w5.heap.size, 0 + 1, none⟩), .int .i64 (t : Int), .slice (some ⟨W0.heap.size, 0, none⟩) 1 1, .slice (some ⟨g5, 0, none⟩) (rr.length + 1) cap5, .pointer (some ⟨w.heap.size + 1, k, none⟩), undef]
        #[.agg #[.slice g.sa n g.sc, .slice g.pa g.prods.length g.pc, .int .i64 g.start, .slice g.fa g.forbid.length g.fc, .slice g.wa g.follow.length g.wc], .pointer (some ⟨w.heap.size, 0, none⟩), .slice none 0 0, .slice (some ⟨w.heap.size + 1, 0, none⟩) n n, .pointer (some ⟨w5.heap.size, 0, none⟩), undef, undef, .pointer (some ⟨w.heap.size, 0, none⟩), .slice g.sa n g.sc, .int .i64 n, .slice (some ⟨w.heap.size + 1, 0, none⟩) n n,
          .agg #[.slice g.sa n g.sc, .slice g.pa g.prods.length g.pc, .int .i64 g.start, .slice g.fa g.forbid.length g.fc, .slice g.wa g.follow.length g.wc], .map (some b), .pointer (some ⟨r, 0, none⟩), .tuple #[.bool true, leadV ((k : Int), (t : Int)), .agg #[]], .bool true, .tuple #[.agg #[.int .i64 (k : Int), .int .i64 (t : Int)], .agg #[]], .agg #[.int .i64 (k : Int), .int .i64 (t : Int)],
          .slice (some ⟨w.heap.size + 1, 0, none⟩) n n, .pointer (some ⟨w5.heap.size, 0, none⟩), .int .i64 (k : Int), .slice (some ⟨w.heap.size + 1, 0, none⟩) n n, .pointer (some ⟨w5.heap.size, 0, none⟩), .int .i64 (k : Int), .pointer (some ⟨w.heap.size + 1, k, none⟩), .slice va rr.length vc, .pointer (some ⟨w5.heap.size, 0 + 1, none⟩), .int .i64 (t : Int), .slice (some ⟨W0.heap.size, 0, none⟩) 1 1, .slice (some ⟨g5, 0, none⟩) (rr.length + 1) cap5, .pointer (some ⟨w.heap.size + 1, k, none⟩),
          undef, undef, undef, undef, undef, undef, undef, undef, undef, undef, undef, undef, undef, undef, undef, undef, undef]
        rfl (by kernel_rfl) (by kernel_rfl) (by kernel_rfl) (by kernel_rfl) (by kernel_rfl) (by kernel_rfl) HW0.out ?_ ?_ _ rfl ?_
      · exact ⟨⟨_, rfl, Turns.val (.slice (some ⟨W0.heap.size, 0, none⟩) 1 1) (by kernel_rfl) (by kernel_rfl) rfl (by kernel_rfl) (bs48 rfl (by kernel_rfl))⟩, ⟨⟨_, rfl, Turns.val (.slice (some ⟨g5, 0, none⟩) (rr.length + 1) cap5) (by kernel_rfl) (by kernel_rfl) rfl (by kernel_rfl) (ap_of rfl (by kernel_rfl) (by kernel_rfl) hrun7)⟩, ⟨⟨_, rfl, Turns.skip (by kernel_rfl) (by kernel_rfl) rfl (st48 rfl (by kernel_rfl) (by kernel_rfl) h7c h7f h7l)⟩, trivial⟩⟩⟩
      · refine EachS.one (Each.val 18 (.slice (some ⟨w.heap.size + 1, 0, none⟩) n n) (by kernel_rfl) (by kernel_rfl) (by kernel_rfl) (fun _ => rfl) (fun _ _ _ => by kernel_rfl) trivial) ?_
        refine EachS.one (Each.val 19 (.pointer (some ⟨w5.heap.size, 0, none⟩)) (by kernel_rfl) (by kernel_rfl) (by kernel_rfl) (fun _ => rfl) (fun W hS _ => fa115_0 rfl (by kernel_rfl)) trivial) ?_
        refine EachS.one (Each.val 20 (.int .i64 (k : Int)) (by kernel_rfl) (by kernel_rfl) (by kernel_rfl) (fun _ => rfl) (fun W hS _ => ld3 rfl (by kernel_rfl) (HL.out W hS).1) trivial) ?_
        refine EachS.one (Each.val 21 (.slice (some ⟨w.heap.size + 1, 0, none⟩) n n) (by kernel_rfl) (by kernel_rfl) (by kernel_rfl) (fun _ => rfl) (fun _ _ _ => by kernel_rfl) trivial) ?_
        refine EachS.one (Each.val 22 (.pointer (some ⟨w5.heap.size, 0, none⟩)) (by kernel_rfl) (by kernel_rfl) (by kernel_rfl) (fun _ => rfl) (fun W hS _ => fa115_0 rfl (by kernel_rfl)) trivial) ?_
        refine EachS.one (Each.val 23 (.int .i64 (k : Int)) (by kernel_rfl) (by kernel_rfl) (by kernel_rfl) (fun _ => rfl) (fun W hS _ => ld3 rfl (by kernel_rfl) (HL.out W hS).1) trivial) ?_
        refine EachS.one (Each.val 24 (.pointer (some ⟨w.heap.size + 1, k, none⟩)) (by kernel_rfl) (by kernel_rfl) (by kernel_rfl) (fun _ => rfl) (fun W hS _ => ix111 (c := n) rfl (by kernel_rfl) (by kernel_rfl) hk (Nat.zero_add k)) trivial) ?_
        refine EachS.one (Each.val 25 (.slice va rr.length vc) (by kernel_rfl) (by kernel_rfl) (by kernel_rfl) (fun _ => rfl) (fun W hS _ => ld48 rfl (by kernel_rfl) (HL.out W hS).2.2) trivial) ?_
        refine EachS.one (Each.val 26 (.pointer (some ⟨w5.heap.size, 0 + 1, none⟩)) (by kernel_rfl) (by kernel_rfl) (by kernel_rfl) (fun _ => rfl) (fun W hS _ => fa115_1 rfl (by kernel_rfl)) trivial) ?_
        refine EachS.one (Each.val 27 (.int .i64 (t : Int)) (by kernel_rfl) (by kernel_rfl) (by kernel_rfl) (fun _ => rfl) (fun W hS _ => ld3 rfl (by kernel_rfl) (HL.out W hS).2.1) trivial) ?_
        refine EachS.skip (by decide) ?_
        refine EachS.skip (by decide) ?_
        refine EachS.one (Each.val 30 (.pointer (some ⟨w.heap.size + 1, k, none⟩)) (by kernel_rfl) (by kernel_rfl) (by kernel_rfl) (fun _ => rfl) (fun W hS _ => ix111 (c := n) rfl (by kernel_rfl) (by kernel_rfl) hk (Nat.zero_add k)) trivial) ?_
        refine EachS.skip (by decide) ?_
        exact trivial
      · go_wp2
        go_roundw
        case rel => exact ⟨_, cnt5, _, _, HZ, HG8⟩
        case measure => exact Nat.lt_of_le_of_lt (Nat.le_of_eq HMe.out.1) (by rw [HMe.out.2]; exact hlt5)
end Go.Proofs.YtodnlcbnbkkanaaGreatDoor
end
section
namespace Go.Proofs.YtodnlcbnbkkanaaGreatDoor
open Go Go.RowKit

/-- A strings.Builder in a block of its own, from B on: the bytes written are l. -/
def GrowAt (B b : Nat) (p : Value) (l : List UInt8) (w : World) : Prop :=
  B ≤ b ∧ ∃ v, Blk w b 161 #[p, v] ∧ w.ownsRow B 5 1 v l.length (Lib.byteCells l) ∧ v.ownBlock ≠ some b ∧ (v = .slice none 0 0 ↔ l = [])
def selfP (b : Nat) : Value := .pointer (some ⟨b, 0, none⟩)

set_option maxHeartbeats 1000000 in
set_option maxRecDepth 100000 in
theorem copyCheck_used (b : Nat) (w : World) (h0 : w.cell? ⟨b, 0, none⟩ = some (.pointer (some ⟨b, 0, none⟩))) :
    Calls Tryz.prog 143 #[.pointer (some ⟨b, 0, none⟩)] w fun e w' => e = .returned (.tuple #[]) ∧ w = w' := by
  obtain ⟨j, hj, _⟩ := Option.map_eq_some_iff.1 (show (Tryz.prog.info? 161).map (·.size) = some 2 by kernel_rfl)
  go_enter Tryz.func143, Tryz.ntmps143
  go_wp2
  rw [Lib.run_neq_ptr_same w _ Tryz.underlying159 hj]
  go_wp2
  go_end0
  exact ⟨rfl, rfl⟩

set_option maxHeartbeats 1000000 in
set_option maxRecDepth 100000 in
theorem copyCheck_fresh (b : Nat) (w : World) (h0 : w.cell? ⟨b, 0, none⟩ = some (.pointer none)) (hsh : w.shape? b = some (161, 2)) (hfz : w.frozen? ⟨b, 0, none⟩ = false) :
    Calls Tryz.prog 143 #[.pointer (some ⟨b, 0, none⟩)] w fun e w' => e = .returned (.tuple #[]) ∧ w' = w.setCell ⟨b, 0, none⟩ (.pointer (some ⟨b, 0, none⟩)) := by
  obtain ⟨j, hj, hjs⟩ := Option.map_eq_some_iff.1 (show (Tryz.prog.info? 161).map (·.size) = some 2 by kernel_rfl)
  go_enter Tryz.func143, Tryz.ntmps143
  go_wp2
  rw [Lib.run_to_unsafe w ⟨b, 0, none⟩ Tryz.underlying159 Tryz.underlying213 hj (by rw [hjs]; decide) hsh (Nat.zero_lt_succ 1)]
  simp only [Result.andThen]
  rw [Oper.upon_value]
  go_wp2
  rw [run_callFunc_extern Tryz.func162 (by kernel_rfl) (by kernel_rfl) (by kernel_rfl) (e := Extern.AbiNoEscape.same) (by kernel_rfl)]
  rw [Lib.run_noEscape]
  simp only [Result.andThen]
  rw [Oper.upon_value]
  go_wp2
  rw [Lib.run_from_unsafe w ⟨b, 0, none⟩ Tryz.underlying213 Tryz.underlying159 hj hsh (by kernel_rfl)]
  simp only [Result.andThen]
  rw [Oper.upon_value]
  go_wp2
  go_end0
  exact ⟨rfl, rfl⟩

theorem GrowAt.shape {B b : Nat} {p : Value} {l : List UInt8} {w : World} (h : GrowAt B b p l w) : w.shape? b = some (161, 2) := by
  obtain ⟨_, v, hb, _⟩ := h
  unfold World.shape?
  simp only [show w.heap[b]? = _ from hb]
  rfl
theorem grownBy_setI (W : World) (b i : Nat) (v : Value) : W.grownBy (W.setCell ⟨b, i, none⟩ v) (some b) := grown_set W b i v
theorem ownsRow_other {w : World} {B e size n b : Nat} {v : Value} {xs : List Value} (h : w.ownsRow B e size v n xs) (hne : v.ownBlock ≠ some b) (i : Nat) (u : Value) : (w.setCell ⟨b, i, none⟩ u).ownsRow B e size v n xs :=
  h.kept (grownBy_setI w b i u) (by right; exact hne)

/-- Whatever block but b that holds no bytes lies as it lay. -/
def KeptT (b : Nat) (w w' : World) : Prop := ∀ k t cs, k ≠ b → t ≠ 5 → Blk w k t cs → Blk w' k t cs
theorem copyCheck_any (B b : Nat) (p : Value) (hp : p = .pointer none ∨ p = selfP b) (l : List UInt8) (w : World) (h : GrowAt B b p l w) :
    Calls Tryz.prog 143 #[.pointer (some ⟨b, 0, none⟩)] w fun e w' => e = .returned (.tuple #[]) ∧ GrowAt B b (selfP b) l w' ∧ Below B w w' ∧ KeptT b w w' := by
  have hsh := h.shape
  obtain ⟨hBb, v, hb, hown, hne, hnil⟩ := h
  rcases hp with rfl | rfl
  · refine (copyCheck_fresh b w (hb.cell 0) hsh (hb.frozen 0)).mono ?_
    rintro e w' ⟨rfl, rfl⟩
    exact ⟨rfl, ⟨hBb, v, hb.set 0 _, ownsRow_other hown hne 0 _, hne, hnil⟩, (Below.refl B w).setCell (p := ⟨b, 0, none⟩) hBb _, fun k t cs hk _ h => h.other (a := ⟨b, 0, none⟩) hk _⟩
  · refine (copyCheck_used b w (hb.cell 0)).mono ?_
    rintro e w' ⟨rfl, rfl⟩
    exact ⟨rfl, ⟨hBb, v, hb, hown, hne, hnil⟩, Below.refl _ _, fun k t cs _ _ h => h⟩

theorem infoByte : (Tryz.prog.info? 5).map (fun i => (i.zero, i.size, i.bytes)) = some (some (.int .u8 0), 1, 1) := by kernel_rfl

set_option maxHeartbeats 2000000 in
set_option maxRecDepth 100000 in
theorem write_any (B b : Nat) (p : Value) (hp : p = .pointer none ∨ p = selfP b) (l : List UInt8) (s : ByteArray) (w : World) (h : GrowAt B b p l w) (hlen : l.length + s.size ≤ 140737488355328) (hBw : B ≤ w.heap.size) :
    Calls Tryz.prog 117 #[.pointer (some ⟨b, 0, none⟩), .string s] w fun e w' => e = .returned (.tuple #[.int .i64 s.size, .nilIface]) ∧ GrowAt B b (selfP b) (l ++ s.data.toList) w' ∧ Below B w w' ∧ KeptT b w w' := by
  obtain ⟨i0, hi, hz0, hz1, hz2⟩ := info_parts infoByte
  have HC := Lib.hid (copyCheck_any B b p hp l w h)
  clear h hp
  go_enter Tryz.func117, Tryz.ntmps117
  go_wp2_with fail
  refine HC.out.mono ?_
  rintro e w1 ⟨rfl, ⟨hBb, v, hb, hown, hne, hnil⟩, hb1, hk1⟩
  have Hk1 := Lib.hid hk1
  clear hk1
  have c0 : w1.cell? ⟨b, 0, none⟩ = some (.pointer (some ⟨b, 0, none⟩)) := hb.cell 0
  have c1 : w1.cell? ⟨b, 1, none⟩ = some v := hb.cell 1
  have Hnil := Lib.hid hnil
  clear hnil
  go_wp2_with (at_builtin; refine Lib.wpList_append_own_string _ rfl _ _ 57 9 rfl B 5 i0 Tryz.underlying57 Tryz.underlying9 hi hz0 hz1 hz2 _ _ _ rfl hown s rfl ?c3 ?c4 ?c5 ?_)
  case c3 => unfold maxLen; omega
  case c4 => omega
  case c5 => have := hb1.size; omega
  intro v' w2 hown' hgrow hn2
  have hb2 : Blk w2 b 161 #[selfP b, v] := hb.kept hgrow (fun e => hne e.symm)
  have d0 : w2.cell? ⟨b, 0, none⟩ = some (.pointer (some ⟨b, 0, none⟩)) := hb2.cell 0
  have d1 : w2.cell? ⟨b, 1, none⟩ = some v := hb2.cell 1
  have f1 : w2.frozen? ⟨b, 1, none⟩ = false := hb2.frozen 1
  have Hn2 := Lib.hid hn2
  clear hn2
  obtain ⟨ao, n', cap, rfl⟩ : ∃ ao n' cap, v' = .slice ao n' cap := by
    rcases hown'.2 with ⟨hv, _⟩ | ⟨g, cap, cur, hv, _⟩
    · exact ⟨_, _, _, hv⟩
    · exact ⟨_, _, _, hv⟩
  have hne' : (Value.slice ao n' cap).ownBlock ≠ some b := by
    intro e
    obtain ⟨_, ⟨hv, _⟩ | ⟨g, cap', cur, hv, _, hg, _⟩⟩ := hown'
    · cases hv; simp [Value.ownBlock] at e
    · cases hv
      simp [Value.ownBlock] at e
      subst e
      rw [show w2.heap[g]? = _ from hb2] at hg
      cases hg
  go_wp2
  go_ret2
  refine ⟨rfl, ⟨hBb, _, hb2.set 1 _, ?_, hne', ?_⟩, ?_, ?_⟩
  · have : w2.ownsRow B 5 1 (.slice ao n' cap) (l ++ s.data.toList).length (Lib.byteCells (l ++ s.data.toList)) := by
      have e1 : (l ++ s.data.toList).length = l.length + s.size := by simp
      rw [e1, Lib.byteCells_append, ← Lib.strCells_eq]; exact hown'
    exact ownsRow_other this hne' 1 _
  · rw [Hn2.out, Hnil.out]
    constructor
    · rintro ⟨rfl, h0⟩
      have : s.data.toList.length = 0 := by simpa using h0
      rw [List.length_eq_zero_iff.1 this]; rfl
    · intro h0
      obtain ⟨h1, h2⟩ := List.append_eq_nil_iff.1 h0
      refine ⟨h1, ?_⟩
      have : s.data.toList.length = 0 := by rw [h2]; rfl
      simpa using this
  · exact (hb1.grown hgrow (by have := hb1.size; omega) (fun k hk => (hown.lt k hk).1)).setCell (p := ⟨b, 1, none⟩) hBb _
  · intro k t cs hk ht h
    have h1 := Hk1.out k t cs hk ht h
    refine Blk.other (h1.kept hgrow ?_) (a := ⟨b, 1, none⟩) hk _
    intro e
    rcases hown.2 with ⟨hv, _⟩ | ⟨g, cap', cur, hv, _, hg, _⟩
    · rw [hv] at e; cases e
    · rw [hv] at e
      obtain rfl : k = g := by simpa [Value.ownBlock] using e
      rw [show w1.heap[k]? = _ from h1] at hg
      cases hg
      exact ht rfl

set_option maxHeartbeats 1000000 in
set_option maxRecDepth 100000 in
theorem bstring_any (B b : Nat) (p : Value) (l : List UInt8) (w : World) (h : GrowAt B b p l w) :
    Calls Tryz.prog 118 #[.pointer (some ⟨b, 0, none⟩)] w fun e w' => e = .returned (.string ⟨l.toArray⟩) ∧ Below B w w' := by
  obtain ⟨hBb, v, hb, hown, hne, hnil⟩ := h
  by_cases h0 : l = []
  · have hv := hnil.2 h0
    subst h0 hv
    have hUS : ∀ W : World, (Builtin.unsafeString_ #[196, 3] 9 #[.pointer none, .int .i64 0]).run Tryz.prog W = .ok (.string .empty) W := fun W => by kernel_rfl
    have c1 : w.drew.cell? ⟨b, 1, none⟩ = some (.slice none 0 0) := hb.cell 1
    have hSD : (Builtin.unsafeSliceData_ #[57] 196 #[.slice none 0 0]).run Tryz.prog w.drew = .ok (.pointer none) w.drew := rfl
    clear hown hne hnil
    go_enter Tryz.func118, Tryz.ntmps118
    go_wp2
    go_region
    all_goals (go_wp2; go_ret; exact ⟨rfl, (Below.refl _ _).drew⟩)
  · have hl0 : l.length ≠ 0 := by simpa using h0
    obtain ⟨g, cap, cur, rfl, hbg, hg, hnc, hcm, hcs, htake⟩ : ∃ g cap cur, v = .slice (some ⟨g, 0, none⟩) l.length cap ∧ B ≤ g ∧ w.heap[g]? = some (.cells cur 5 (0, 0)) ∧ l.length ≤ cap ∧ cap ≤ maxLen ∧ cur.size = cap * 1 ∧ cur.toList.take (l.length * 1) = Lib.byteCells l := by
      rcases hown.2 with ⟨_, hz⟩ | ⟨g, cap, cur, hv, r⟩
      · exact absurd hz hl0
      · exact ⟨g, cap, cur, hv, r⟩
    have c1 : w.drew.cell? ⟨b, 1, none⟩ = some (.slice (some ⟨g, 0, none⟩) l.length cap) := hb.cell 1
    have hSD : (Builtin.unsafeSliceData_ #[57] 196 #[.slice (some ⟨g, 0, none⟩) l.length cap]).run Tryz.prog w.drew = .ok (.pointer (some ⟨g, 0, none⟩)) w.drew :=
      Lib.run_unsafeSliceData_row _ _ _ _ _ _ (by omega)
    have hUS : (Builtin.unsafeString_ #[196, 3] 9 #[.pointer (some ⟨g, 0, none⟩), .int .i64 l.length]).run Tryz.prog w.drew = .ok (.string ⟨l.toArray⟩) (w.drew.freeze ⟨g, 0, none⟩ l.length) := by
      refine Lib.run_unsafeString_row w.drew 196 3 9 5 Tryz.underlying196 (by kernel_rfl) g cur.size (by have hg' : w.drew.heap[g]? = some (.cells cur 5 (0, 0)) := hg; simp [World.shape?, hg']) l h0 (by omega) (by unfold maxLen at hcm; omega) ?_
      intro j x hx
      have := hown.cells (g := g) rfl j (.int .u8 x.toNat) (by simp [Lib.byteCells, hx])
      exact this
    clear hown hne hnil hg htake
    go_enter Tryz.func118, Tryz.ntmps118
    go_wp2
    go_region
    all_goals (go_wp2; go_ret; exact ⟨rfl, Lib.below_freeze (Below.drew (Below.refl B w)) (p := ⟨g, 0, none⟩) hbg _⟩)
end Go.Proofs.YtodnlcbnbkkanaaGreatDoor
end
section
namespace Go.Proofs.YtodnlcbnbkkanaaGreatDoor
open Go Go.RowKit

/-! Texts that are told whole, or by their parts. -/

/-- A string of bytes. -/
def bs (l : List UInt8) : ByteArray := ⟨l.toArray⟩
theorem bs_size (l : List UInt8) : (bs l).size = l.length := by unfold bs; simp [ByteArray.size]
theorem bs_list (l : List UInt8) : (bs l).data.toList = l := by unfold bs; simp
/-- A text that is told whole. -/
def Leaf (W : World) (b : Nat) (t : List UInt8) : Prop := Blk W b 192 #[.int .i64 t.length, .string (bs t), .slice none 0 0]
def RopeAt : Nat → World → Nat → List UInt8 → Prop
  | 0, W, b, t => Leaf W b t
  | d + 1, W, b, t => Leaf W b t ∨ (4096 < t.length ∧ ∃ (g c : Nat) (ps : List (Nat × List UInt8)), 2 ≤ ps.length ∧ t = (ps.map (·.2)).flatten ∧ Blk W b 192 #[.int .i64 t.length, .string (bs []), .slice (some ⟨g, 0, none⟩) ps.length c] ∧ g < W.heap.size ∧
      ∀ (i : Nat) (p : Nat × List UInt8), ps[i]? = some p → W.cell? ⟨g, i, none⟩ = some (.pointer (some ⟨p.1, 0, none⟩)) ∧ p.2 ≠ [] ∧ RopeAt d W p.1 p.2)
/-- A text at a pointer. -/
def TxtAt (W : World) (b : Nat) (t : List UInt8) : Prop := ∃ d, RopeAt d W b t
theorem Leaf.below {W V : World} {b : Nat} {t : List UInt8} (h : Leaf W b t) (hB : Below W.heap.size W V) : Leaf V b t := Blk.below h hB (Blk.lt h)
theorem RopeAt.below {W V : World} (hB : Below W.heap.size W V) : ∀ {d b : Nat} {t : List UInt8}, RopeAt d W b t → RopeAt d V b t := by
  intro d
  induction d with
  | zero => intro b t h; exact Leaf.below h hB
  | succ d ih =>
    intro b t h
    rcases h with h | ⟨h1, g, c, ps, h2, h3, h4, h5, h6⟩
    · exact .inl (Leaf.below h hB)
    · exact .inr ⟨h1, g, c, ps, h2, h3, h4.below hB h4.lt, Nat.lt_of_lt_of_le h5 hB.size, fun i p hp => by
        obtain ⟨k1, k2, k3⟩ := h6 i p hp
        exact ⟨(hB.cell (p := ⟨g, i, none⟩) h5).trans k1, k2, ih k3⟩⟩
theorem TxtAt.below {W V : World} {b : Nat} {t : List UInt8} (h : TxtAt W b t) (hB : Below W.heap.size W V) : TxtAt V b t := by
  obtain ⟨d, h⟩ := h
  exact ⟨d, h.below hB⟩
theorem RopeAt.lt {W : World} {d b : Nat} {t : List UInt8} (h : RopeAt d W b t) : b < W.heap.size := by
  cases d with
  | zero => exact Blk.lt h
  | succ d =>
    rcases h with h | ⟨_, _, _, _, _, _, h, _⟩
    · exact Blk.lt h
    · exact h.lt
theorem TxtAt.lt {W : World} {b : Nat} {t : List UInt8} (h : TxtAt W b t) : b < W.heap.size := by
  obtain ⟨d, h⟩ := h; exact h.lt
theorem TxtAt.leaf {W : World} {b : Nat} {t : List UInt8} (h : TxtAt W b t) (ht : t.length ≤ 4096) : Leaf W b t := by
  obtain ⟨d, h⟩ := h
  cases d with
  | zero => exact h
  | succ d =>
    rcases h with h | ⟨h, _⟩
    · exact h
    · omega
theorem Leaf.txt {W : World} {b : Nat} {t : List UInt8} (h : Leaf W b t) : TxtAt W b t := ⟨0, h⟩
/-- Blocks are alike: only texts and rows of pointers count. -/
theorem Leaf.kept {W V : World} {b : Nat} {t : List UInt8} {q : Option Nat} (h : Leaf W b t) (hg : W.grownBy V q) (hne : some b ≠ q) : Leaf V b t := Blk.kept h hg hne

set_option maxRecDepth 100000 in
set_option maxHeartbeats 1000000 in
/-- whole. -/
theorem whole_any (l : List UInt8) (w : World) (hl : l.length ≤ 9223372036854775807) :
    Calls Tryz.prog 140 #[.string (bs l)] w fun e w' => e = .returned (.pointer (some ⟨w.heap.size, 0, none⟩)) ∧ w' = w.alloc (.cells #[.int .i64 l.length, .string (bs l), .slice none 0 0] 192) := by
  have hs := bs_size l
  generalize bs l = s at *
  obtain ⟨n, hn⟩ : ∃ n, n = l.length := ⟨_, rfl⟩
  rw [← hn] at hs hl ⊢
  clear hn
  go_enter Tryz.func140, Tryz.ntmps140
  go_wp2
  go_ret
  exact ⟨rfl, rfl⟩

set_option maxRecDepth 100000 in
set_option maxHeartbeats 1000000 in
theorem isNaN_any (n : Int) (w : World) : Calls Tryz.prog 169 #[.int .i64 n] w fun e w' => e = .returned (.bool false) ∧ w = w' := by
  go_enter Tryz.func169, Tryz.ntmps169
  go_wp2
  go_ret
  exact ⟨rfl, rfl⟩
/-- Which comes first. -/
def cmpI (a b : Int) : Int := if a < b then -1 else if b < a then 1 else 0
set_option maxRecDepth 100000 in
set_option maxHeartbeats 2000000 in
theorem cmp_any (a b : Int) (w : World) : Calls Tryz.prog 156 #[.int .i64 a, .int .i64 b] w fun e w' => e = .returned (.int .i64 (cmpI a b)) ∧ w = w' := by
  unfold cmpI
  by_cases h1 : a < b
  · rw [if_pos h1]
    go_enter Tryz.func156, Tryz.ntmps156
    go_wp2_with (go_at_call 169; refine (isNaN_any _ _).mono ?_; rintro e w' ⟨rfl, rfl⟩)
    go_ret
    exact ⟨rfl, rfl⟩
  · rw [if_neg h1]
    have h1b : decide (a < b) = false := by simpa using h1
    by_cases h2 : b < a
    · rw [if_pos h2]
      have h2b : decide (b < a) = true := by simpa using h2
      clear h1
      go_enter Tryz.func156, Tryz.ntmps156
      go_wp2_with (go_at_call 169; refine (isNaN_any _ _).mono ?_; rintro e w' ⟨rfl, rfl⟩)
      go_ret
      exact ⟨rfl, rfl⟩
    · rw [if_neg h2]
      have h2b : decide (b < a) = false := by simpa using h2
      clear h1 h2
      go_enter Tryz.func156, Tryz.ntmps156
      go_wp2_with (go_at_call 169; refine (isNaN_any _ _).mono ?_; rintro e w' ⟨rfl, rfl⟩)
      go_ret
      exact ⟨rfl, rfl⟩
end Go.Proofs.YtodnlcbnbkkanaaGreatDoor
end
section
namespace Go.Proofs.YtodnlcbnbkkanaaGreatDoor
open Go Go.RowKit

set_option maxRecDepth 100000 in
set_option maxHeartbeats 1000000 in
theorem cmpstr_any (s t : ByteArray) (w : World) : Calls Tryz.prog 170 #[.string s, .string t] w fun e w' => e = .returned (.int .i64 (Lib.compareBytes s.data.toList t.data.toList)) ∧ w = w' := by
  go_enter Tryz.func170, Tryz.ntmps170
  go_wp2_with fail
  rw [run_callFunc_extern Tryz.func175 (by kernel_rfl) (by kernel_rfl) (by kernel_rfl) (e := Extern.BytealgCompare.compare) (by kernel_rfl)]
  rw [Lib.run_compareString]
  simp only [Result.andThen]
  rw [Oper.upon_value]
  go_wp2
  go_ret
  exact ⟨rfl, rfl⟩
set_option maxRecDepth 100000 in
set_option maxHeartbeats 1000000 in
theorem strcmp_any (s t : ByteArray) (w : World) : Calls Tryz.prog 157 #[.string s, .string t] w fun e w' => e = .returned (.int .i64 (Lib.compareBytes s.data.toList t.data.toList)) ∧ w = w' := by
  have HC := fun w => Lib.hid (cmpstr_any s t w)
  generalize Lib.compareBytes s.data.toList t.data.toList = c at *
  go_enter Tryz.func157, Tryz.ntmps157
  go_wp2_with fail
  refine (HC _).out.mono ?_
  rintro e w3 ⟨rfl, rfl⟩
  go_wp2
  go_ret
  exact ⟨rfl, rfl⟩

set_option maxRecDepth 100000 in
set_option maxHeartbeats 2000000 in
/-- reader.next, where nothing is left. -/
theorem next_nil (R : Nat) (a : Option Addr) (c : Nat) (w : World) (hr : Blk w R 162 #[.slice a 0 c]) :
    Calls Tryz.prog 116 #[.pointer (some ⟨R, 0, none⟩)] w fun e w' => e = .returned (.string ⟨#[]⟩) ∧ Below w.heap.size w w' := by
  have c0 := hr.cell 0
  have l0 := hr.lt
  clear hr
  have HB : Hid (Below w.heap.size w (w.alloc (.cells #[.pointer (some ⟨R, 0, none⟩)] 190))) := Lib.hid ((Below.refl _ _).alloc (Nat.le_refl _) _)
  go_enter Tryz.func116, Tryz.ntmps116
  go_wp2
  go_loopw [3] (fun _ wr => Hid (wr = w.alloc (.cells #[.pointer (some ⟨R, 0, none⟩)] 190))) (fun _ _ => 0)
  case atStart => exact Lib.hid rfl
  case round =>
    have e := hrel.out
    subst e
    go_wp2
    go_ret
    exact ⟨rfl, HB.out⟩
set_option maxRecDepth 100000 in
set_option maxHeartbeats 4000000 in
/-- reader.next of one text that is told whole. -/
theorem next_one (R S c b : Nat) (t : List UInt8) (w : World) (hr : Blk w R 162 #[.slice (some ⟨S, 0, none⟩) 1 c]) (hs : w.cell? ⟨S, 0, none⟩ = some (.pointer (some ⟨b, 0, none⟩))) (hb : Leaf w b t) :
    Calls Tryz.prog 116 #[.pointer (some ⟨R, 0, none⟩)] w fun e w' => e = .returned (.string (bs t)) ∧ Blk w' R 162 #[.slice (some ⟨S, 0, none⟩) 0 c] ∧ w.grownBy w' (some R) := by
  have c0 := hr.cell 0
  have l0 := hr.lt
  have lS := lt_of_cell hs
  have lb := Blk.lt hb
  have b1 := Blk.cell hb 1
  have b2 := Blk.cell hb 2
  have hne : b ≠ R := fun e => by
    subst e
    have h1 : w.heap[b]? = some (.cells _ 192 (0, 0)) := hb
    have h2 : w.heap[b]? = some (.cells _ 162 (0, 0)) := hr
    rw [h1] at h2
    cases h2
  have HRe := Lib.hid hr
  have HLf := Lib.hid hb
  obtain ⟨s, hs'⟩ : ∃ s, s = bs t := ⟨_, rfl⟩
  rw [← hs'] at b1 ⊢
  have HSe := Lib.hid hs'
  have f0 := hr.frozen 0
  clear hr hb hs'
  go_enter Tryz.func116, Tryz.ntmps116
  go_wp2
  go_loopw [3] (fun _ wr => Hid (wr = w.alloc (.cells #[.pointer (some ⟨R, 0, none⟩)] 190))) (fun _ _ => 0)
  case atStart => exact Lib.hid rfl
  case round =>
    have e := hrel.out
    subst e
    go_wp2
    refine wp_region_still_tail 7 (by kernel_rfl) (by kernel_rfl) ?_
    show wpStill _ _ (World.drew (w.alloc (.cells #[.pointer (some ⟨R, 0, none⟩)] 190))) _ _ _
    obtain ⟨W, hW⟩ : ∃ W, W = World.drew (w.alloc (.cells #[.pointer (some ⟨R, 0, none⟩)] 190)) := ⟨_, rfl⟩
    have HW := Lib.hid hW
    rw [← hW]
    have hB1 : Below w.heap.size w W := by rw [hW]; exact ((Below.refl _ _).alloc (Nat.le_refl _) _).drew
    have kB : Blk W w.heap.size 190 #[.pointer (some ⟨R, 0, none⟩)] := by rw [hW]; exact Blk.new w 190 _
    have kR := HRe.out.below hB1 l0
    have HG : Hid (w.grownBy W (some R)) := Lib.hid (grown_of_below hB1 _)
    have d0 := kB.cell 0
    have d1 := kR.cell 0
    have lB := kB.lt
    have lR := kR.lt
    have fR := kR.frozen 0
    have HLW := Lib.hid (Blk.below (show Blk w b 192 _ from HLf.out) hB1 lb)
    have e1 := HLW.out.cell 1
    have e2 := HLW.out.cell 2
    have le := HLW.out.lt
    have HKR := Lib.hid kR
    clear hW hB1 kB kR c0 l0 f0 lS b1 b2 hs
    simp only [List.take_succ_cons, List.take_zero, List.drop_succ_cons, List.drop_zero]
    repeat still_step
    refine wpStill_nil ?_
    show wpList _ _ _ _ _ (World.drew (w.alloc (.cells #[.pointer (some ⟨R, 0, none⟩)] 190)))
    rw [← HW.out]
    clear HW
    have HN : Hid (Blk (W.setCell ⟨R, 0, none⟩ (.slice (some ⟨S, 0, none⟩) 0 c)) R 162 #[.slice (some ⟨S, 0, none⟩) 0 c]) := Lib.hid (by have h := HKR.out.set 0 (.slice (some ⟨S, 0, none⟩) 0 c); exact h)
    have HG2 : Hid (w.grownBy (W.setCell ⟨R, 0, none⟩ (.slice (some ⟨S, 0, none⟩) 0 c)) (some R)) := Lib.hid (grown_trans HG.out (grown_set W R 0 _))
    clear hrel
    go_wp2
    go_ret
    exact ⟨by rw [HSe.out]; rfl, HN.out, HG2.out⟩
theorem neq_empty (s : ByteArray) (h : s.data.toList ≠ []) (w : World) : (binOp .neq 9 (.string s) (.string ⟨#[]⟩)).run Tryz.prog w = .ok (.bool true) w := by
  go_simp
  rw [ByteArray.toList_eq]; exact h
theorem eql_empty (s : ByteArray) (h : s.data.toList ≠ []) (w : World) : (binOp .eql 9 (.string s) (.string ⟨#[]⟩)).run Tryz.prog w = .ok (.bool false) w := by
  go_simp
  rw [ByteArray.toList_eq]; exact h

theorem GrowAt.below {B b : Nat} {p : Value} {l : List UInt8} {w V : World} (h : GrowAt B b p l w) (hB : Below w.heap.size w V) : GrowAt B b p l V := by
  obtain ⟨h1, v, h2, h3, h4, h5⟩ := h
  exact ⟨h1, v, h2.below hB h2.lt, own_below h3 hB (Nat.le_refl _), h4, h5⟩
set_option maxRecDepth 100000 in
set_option maxHeartbeats 4000000 in
/-- String, of a text that is told whole. -/
theorem string_leaf (b : Nat) (t : List UInt8) (w : World) (hb : Leaf w b t) (ht : t.length ≤ 1073741824) :
    Calls Tryz.prog 87 #[.pointer (some ⟨b, 0, none⟩)] w fun e w' => e = .returned (.string (bs t)) ∧ Below w.heap.size w w' := by
  have lb := Blk.lt hb
  have e1 := Blk.new w 161 #[.pointer none, .slice none 0 0]
  have e2 := Blk.new (w.alloc (.cells #[.pointer none, .slice none 0 0] 161)) 133 #[.pointer (some ⟨b, 0, none⟩)]
  have e3 := Blk.new ((w.alloc (.cells #[.pointer none, .slice none 0 0] 161)).alloc (.cells #[.pointer (some ⟨b, 0, none⟩)] 133)) 162 #[.slice (some ⟨w.heap.size + 1, 0, none⟩) 1 1]
  simp only [World.size_alloc] at e2 e3
  obtain ⟨W1, hW1⟩ : ∃ W1, W1 = ((w.alloc (.cells #[.pointer none, .slice none 0 0] 161)).alloc (.cells #[.pointer (some ⟨b, 0, none⟩)] 133)).alloc (.cells #[.slice (some ⟨w.heap.size + 1, 0, none⟩) 1 1] 162) := ⟨_, rfl⟩
  have hB1 : Below w.heap.size w W1 := by rw [hW1]; exact (((Below.refl _ w).alloc (Nat.le_refl _) _).alloc (by simp) _).alloc (by simp; omega) _
  have hR : Blk W1 (w.heap.size + 1 + 1) 162 #[.slice (some ⟨w.heap.size + 1, 0, none⟩) 1 1] := by rw [hW1]; exact e3
  have hS : W1.cell? ⟨w.heap.size + 1, 0, none⟩ = some (.pointer (some ⟨b, 0, none⟩)) := by rw [hW1]; exact (e2.alloc _).cell 0
  have hG : GrowAt w.heap.size w.heap.size (.pointer none) [] W1 := ⟨Nat.le_refl _, .slice none 0 0, by rw [hW1]; exact (e1.alloc _).alloc _, ⟨rfl, .inl ⟨rfl, rfl⟩⟩, by simp [Value.ownBlock], by simp⟩
  have HN := Lib.hid (next_one (w.heap.size + 1 + 1) (w.heap.size + 1) 1 b t W1 hR hS (Blk.below hb hB1 lb))
  have HW1 := Lib.hid hW1
  have HG := Lib.hid hG
  have HB1 := Lib.hid hB1
  clear hb e1 e2 e3 hW1 hB1 hR hS hG
  go_enter Tryz.func87, Tryz.ntmps87
  go_upto_region 3 with (fail)
  rw [← HW1.out]
  go_wp2_with fail
  refine HN.out.mono ?_
  rintro e w3 ⟨rfl, hR3, hg3⟩
  have HR3 := Lib.hid hR3
  have HB3 : Hid (Below w.heap.size w w3) := Lib.hid (below_grown HB1.out hg3 (Nat.le_refl _) (by omega))
  have HG3 : Hid (GrowAt w.heap.size w.heap.size (.pointer none) [] w3) := Lib.hid (by
    obtain ⟨h1, v, h2, h3, h4, h5⟩ := HG.out
    exact ⟨h1, v, h2.kept hg3 (by simp; omega), by rw [h5.2 rfl]; exact ⟨rfl, .inl ⟨rfl, rfl⟩⟩, h4, h5⟩)
  clear hR3 hg3 HN HG HB1 HW1
  have hle : t.length ≤ 140737488355328 := by omega
  obtain ⟨s, hs⟩ : ∃ s, s = bs t := ⟨_, rfl⟩
  have HS := Lib.hid hs
  rw [← hs]
  have hsz : s.size = t.length := by rw [hs, bs_size]
  have HSl : Hid (s.data.toList = t) := Lib.hid (by rw [hs, bs_list])
  have hne : t ≠ [] → ¬ s.toList = [] := fun h => by rw [ByteArray.toList_eq, hs, bs_list]; exact h
  have HNe := Lib.hid hne
  have HNil : Hid (t = [] → s = ⟨#[]⟩) := Lib.hid (fun h => by rw [hs, h]; rfl)
  have HSz := Lib.hid hsz
  clear hs hne hsz
  go_wp2
  go_loopg [5] 1 (fun gg v wr => ∃ (k : Nat), k ≤ gg ∧ ((k = 1 ∧ v = .string s ∧ Hid (t ≠ [] ∧ Blk wr (w.heap.size + 1 + 1) 162 #[.slice (some ⟨w.heap.size + 1, 0, none⟩) 0 1] ∧ GrowAt w.heap.size w.heap.size (.pointer none) [] wr ∧ Below w.heap.size w wr)) ∨ (v = .string ⟨#[]⟩ ∧ Hid (∃ p, GrowAt w.heap.size w.heap.size p t wr ∧ Below w.heap.size w wr))))
  case atStart =>
    by_cases h0 : t = []
    · exact ⟨0, by omega, .inr ⟨by rw [HNil.out h0], Lib.hid ⟨_, by rw [h0]; exact HG3.out, HB3.out⟩⟩⟩
    · exact ⟨1, by omega, .inl ⟨rfl, rfl, Lib.hid ⟨h0, HR3.out, HG3.out, HB3.out⟩⟩⟩
  case round =>
    clear HR3 HB3 HG3
    obtain ⟨k, hk, ⟨rfl, rfl, K⟩ | ⟨rfl, K⟩⟩ := hrel
    · have hne := HNe.out K.out.1
      have hne2 : s.toList.isEmpty = false := by simpa using hne
      have HW := Lib.hid (write_any _ _ _ (.inl rfl) [] s wr K.out.2.2.1 (by have := HSz.out; simp; omega) K.out.2.2.2.size)
      have HBr := Lib.hid K.out.2.2.2
      have HRr := Lib.hid K.out.2.1
      clear K
      go_wp2_with fail
      refine HW.out.mono ?_
      rintro e w4 ⟨rfl, hG4, hB4, hK4⟩
      have HR4 := Lib.hid (hK4 _ 162 _ (by omega) (by decide) HRr.out)
      have HG4 : Hid (GrowAt w.heap.size w.heap.size (selfP w.heap.size) t w4) := Lib.hid (by rw [HSl.out, List.nil_append] at hG4; exact hG4)
      have HB4 := Lib.hid (HBr.out.trans hB4)
      clear hB4 hG4 hK4 HW
      have HN := Lib.hid (next_nil (w.heap.size + 1 + 1) _ _ w4 HR4.out)
      go_wp2_with fail
      refine HN.out.mono ?_
      rintro e w5 ⟨rfl, hB5⟩
      have HZ : Hid (∃ p, GrowAt w.heap.size w.heap.size p t w5 ∧ Below w.heap.size w w5) := Lib.hid ⟨_, HG4.out.below hB5, HB4.out.trans (hB5.mono HB4.out.size)⟩
      clear hB5 HN
      go_wp2
      go_roundg 0
      case rel => exact ⟨0, Nat.zero_le _, .inr ⟨rfl, HZ⟩⟩
      case measure => omega
    · obtain ⟨p, hG, hB⟩ := K.out
      have HSt := Lib.hid (bstring_any _ _ _ _ _ hG)
      have HB := Lib.hid hB
      clear hG hB K
      go_wp2_with fail
      refine HSt.out.mono ?_
      rintro e w4 ⟨rfl, hB4⟩
      have HB4 := Lib.hid (HB.out.trans hB4)
      clear hB4 HSt
      go_wp2
      go_ret
      exact ⟨by rw [HS.out]; rfl, HB4.out⟩
end Go.Proofs.YtodnlcbnbkkanaaGreatDoor
end
section
namespace Go.Proofs.YtodnlcbnbkkanaaGreatDoor
open Go Go.RowKit

/-- Which text is the less: the shorter one, else byte by byte. -/
def cmpT (s t : List UInt8) : Int := if s.length = t.length then Lib.compareBytes s t else cmpI s.length t.length
theorem compareBytes_self (s : List UInt8) : Lib.compareBytes s s = 0 := by
  induction s with
  | nil => rfl
  | cons x r ih => rw [Lib.compareBytes, if_neg (UInt8.lt_irrefl x), if_neg (UInt8.lt_irrefl x), ih]
theorem Leaf.unique {W : World} {b : Nat} {s t : List UInt8} (h : Leaf W b s) (k : Leaf W b t) : s = t := by
  have h1 := Blk.cell h 1
  have h2 := Blk.cell k 1
  rw [h1] at h2
  have h3 : bs s = bs t := by simpa using h2
  rw [← bs_list s, ← bs_list t, h3]

set_option maxRecDepth 100000 in
set_option maxHeartbeats 4000000 in
theorem compare_same (a : Nat) (s : List UInt8) (w : World) (ha : Leaf w a s) : Calls Tryz.prog 137 #[.pointer (some ⟨a, 0, none⟩), .pointer (some ⟨a, 0, none⟩)] w fun e w' => e = .returned (.int .i64 0) ∧ Below w.heap.size w w' := by
  obtain ⟨j, hj, hjs⟩ := Option.map_eq_some_iff.1 (show (Tryz.prog.info? 192).map (·.size) = some 3 by kernel_rfl)
  have hp : ∀ W : World, (binOp .eql 133 (.pointer (some ⟨a, 0, none⟩)) (.pointer (some ⟨a, 0, none⟩))).run Tryz.prog W = .ok (.bool true) W := fun W => run_eql_ptr_same W _ Tryz.underlying133 hj
  have c0 := Blk.cell ha 0
  have lt := Blk.lt ha
  obtain ⟨n, hn⟩ : ∃ n, n = s.length := ⟨_, rfl⟩
  rw [← hn] at c0
  have HC := fun w => Lib.hid (cmp_any n n w)
  have he : cmpI (n : Int) (n : Int) = 0 := by unfold cmpI; rw [if_neg (Int.lt_irrefl _), if_neg (Int.lt_irrefl _)]
  rw [he] at HC
  clear ha hn he hj hjs
  go_enter Tryz.func137, Tryz.ntmps137
  go_wp2
  go_quiet (fail)
  go_wp2
  refine wp_region_still_tail 8 (by kernel_rfl) (by kernel_rfl) ?_
  show wpStill _ _ (World.drew (w.drewN _)) _ _ _
  obtain ⟨W, hW⟩ : ∃ W, W = World.drew (w.drewN nq) := ⟨_, rfl⟩
  have HW := Lib.hid hW
  rw [← hW]
  have hB1 : Below w.heap.size w W := by rw [hW]; exact (below_drewN (Below.refl _ _) _).drew
  have d0 : W.cell? ⟨a, 0, none⟩ = some (.int .i64 n) := (hB1.cell (p := ⟨a, 0, none⟩) lt).trans c0
  have dl : a < W.heap.size := Nat.lt_of_lt_of_le lt hB1.size
  have HB := Lib.hid hB1
  clear hW hB1 c0
  simp only [List.take_succ_cons, List.take_zero, List.drop_succ_cons, List.drop_zero]
  repeat still_step
  refine wpStill_nil ?_
  show wpList _ _ _ _ _ (World.drew (w.drewN _))
  rw [← HW.out]
  clear HW
  go_wp2_with fail
  refine (HC _).out.mono ?_
  rintro e w3 ⟨rfl, rfl⟩
  go_wp2
  go_ret
  exact ⟨rfl, HB.out⟩
set_option maxRecDepth 100000 in
set_option maxHeartbeats 4000000 in
theorem compare_size (a b : Nat) (s t : List UInt8) (w : World) (hab : a ≠ b) (ha : Leaf w a s) (hb : Leaf w b t) (hst : s.length ≠ t.length) : Calls Tryz.prog 137 #[.pointer (some ⟨a, 0, none⟩), .pointer (some ⟨b, 0, none⟩)] w fun e w' => e = .returned (.int .i64 (cmpI s.length t.length)) ∧ Below w.heap.size w w' := by
  obtain ⟨j, hj, hjs⟩ := Option.map_eq_some_iff.1 (show (Tryz.prog.info? 192).map (·.size) = some 3 by kernel_rfl)
  have hp : ∀ n : Nat, (binOp .eql 133 (.pointer (some ⟨a, 0, none⟩)) (.pointer (some ⟨b, 0, none⟩))).run Tryz.prog (w.drewN n) = .ok (.bool false) (w.drewN n) := fun n => run_eql_ptr_other (w.drewN n) (a := ⟨a, 0, none⟩) (b := ⟨b, 0, none⟩) Tryz.underlying133 hj (by rw [hjs]; decide) (by simp [hab]) (Blk.below ha (below_drewN (Below.refl w.heap.size w) n) (Blk.lt ha)) (Blk.below hb (below_drewN (Below.refl w.heap.size w) n) (Blk.lt hb))
  have c0 := Blk.cell ha 0
  have lt := Blk.lt ha
  have k0 := Blk.cell hb 0
  have ltb := Blk.lt hb
  obtain ⟨n, hn⟩ : ∃ n, n = s.length := ⟨_, rfl⟩
  obtain ⟨m, hm⟩ : ∃ n, n = t.length := ⟨_, rfl⟩
  rw [← hn] at c0
  rw [← hm] at k0
  have HC := fun w => Lib.hid (cmp_any n m w)
  rw [← hn, ← hm] at hst ⊢
  have hne : ((n : Int) != (m : Int)) = true := by simp; omega
  have hne2 : ((n : Int) == (m : Int)) = false := by simp; omega
  generalize cmpI (n : Int) (m : Int) = c at *
  clear ha hb hn hm hj hjs hst hab
  go_enter Tryz.func137, Tryz.ntmps137
  go_wp2
  go_quiet (fail)
  go_wp2
  refine wp_region_still_tail 8 (by kernel_rfl) (by kernel_rfl) ?_
  show wpStill _ _ (World.drew (w.drewN _)) _ _ _
  obtain ⟨W, hW⟩ : ∃ W, W = World.drew (w.drewN nq) := ⟨_, rfl⟩
  have HW := Lib.hid hW
  rw [← hW]
  have hB1 : Below w.heap.size w W := by rw [hW]; exact (below_drewN (Below.refl _ _) _).drew
  have d0 : W.cell? ⟨a, 0, none⟩ = some (.int .i64 n) := (hB1.cell (p := ⟨a, 0, none⟩) lt).trans c0
  have d1 : W.cell? ⟨b, 0, none⟩ = some (.int .i64 m) := (hB1.cell (p := ⟨b, 0, none⟩) ltb).trans k0
  have dl : a < W.heap.size := Nat.lt_of_lt_of_le lt hB1.size
  have dl2 : b < W.heap.size := Nat.lt_of_lt_of_le ltb hB1.size
  have HB := Lib.hid hB1
  clear hW hB1 c0 k0 hp
  simp only [List.take_succ_cons, List.take_zero, List.drop_succ_cons, List.drop_zero]
  repeat still_step
  refine wpStill_nil ?_
  show wpList _ _ _ _ _ (World.drew (w.drewN _))
  rw [← HW.out]
  clear HW
  go_wp2_with fail
  refine (HC _).out.mono ?_
  rintro e w3 ⟨rfl, rfl⟩
  go_wp2
  go_ret
  exact ⟨rfl, HB.out⟩
end Go.Proofs.YtodnlcbnbkkanaaGreatDoor
end
section
namespace Go.Proofs.YtodnlcbnbkkanaaGreatDoor
open Go Go.RowKit

theorem ba_whole (s : ByteArray) : s.extract 0 s.size = s := by
  apply ByteArray.ext
  rw [ByteArray.data_extract]
  show s.data.extract 0 s.data.size = s.data
  simp
theorem ba_end (s : ByteArray) : s.extract s.size s.size = ⟨#[]⟩ := by
  apply ByteArray.ext
  rw [ByteArray.data_extract]
  show s.data.extract s.data.size s.data.size = #[]
  simp
theorem cell_kept {W V : World} {q : Option Nat} {b i : Nat} {v : Value} (hg : W.grownBy V q) (h : W.cell? ⟨b, i, none⟩ = some v) (hne : some b ≠ q) : V.cell? ⟨b, i, none⟩ = some v :=
  (World.cell?_of_block (hg.block b (lt_of_cell h) hne)).trans h
/-- What compare's loop holds: ahead of the first round, and of the second. -/
def CmpSt (w : World) (a b : Nat) (s t : List UInt8) (R1 R2 : Nat) (k : Nat) (W : World) : Prop :=
  Below w.heap.size w W ∧ R1 ≠ R2 ∧ w.heap.size ≤ R1 ∧ w.heap.size ≤ R2 ∧
  ((k = 1 ∧ ∃ S1 S2 c1 c2, Blk W R1 162 #[.slice (some ⟨S1, 0, none⟩) 1 c1] ∧ Blk W R2 162 #[.slice (some ⟨S2, 0, none⟩) 1 c2] ∧ W.cell? ⟨S1, 0, none⟩ = some (.pointer (some ⟨a, 0, none⟩)) ∧ W.cell? ⟨S2, 0, none⟩ = some (.pointer (some ⟨b, 0, none⟩)) ∧ S2 ≠ R1) ∨
   (k = 0 ∧ Lib.compareBytes s t = 0 ∧ ∃ a1 a2 c1 c2, Blk W R1 162 #[.slice a1 0 c1] ∧ Blk W R2 162 #[.slice a2 0 c2]))

set_option maxRecDepth 100000 in
set_option maxHeartbeats 8000000 in
theorem compare_bytes (a b : Nat) (s t : List UInt8) (w : World) (hab : a ≠ b) (ha : Leaf w a s) (hb : Leaf w b t) (hst : s.length = t.length) (hl : s.length ≤ 1073741824) : Calls Tryz.prog 137 #[.pointer (some ⟨a, 0, none⟩), .pointer (some ⟨b, 0, none⟩)] w fun e w' => e = .returned (.int .i64 (Lib.compareBytes s t)) ∧ Below w.heap.size w w' := by
  obtain ⟨j, hj, hjs⟩ := Option.map_eq_some_iff.1 (show (Tryz.prog.info? 192).map (·.size) = some 3 by kernel_rfl)
  have hp : ∀ n : Nat, (binOp .eql 133 (.pointer (some ⟨a, 0, none⟩)) (.pointer (some ⟨b, 0, none⟩))).run Tryz.prog (w.drewN n) = .ok (.bool false) (w.drewN n) := fun n => run_eql_ptr_other (w.drewN n) (a := ⟨a, 0, none⟩) (b := ⟨b, 0, none⟩) Tryz.underlying133 hj (by rw [hjs]; decide) (by simp [hab]) (Blk.below ha (below_drewN (Below.refl w.heap.size w) n) (Blk.lt ha)) (Blk.below hb (below_drewN (Below.refl w.heap.size w) n) (Blk.lt hb))
  have c0 := Blk.cell ha 0
  have lt := Blk.lt ha
  have k0 := Blk.cell hb 0
  have ltb := Blk.lt hb
  obtain ⟨n, hn⟩ : ∃ n, n = s.length := ⟨_, rfl⟩
  have hm : n = t.length := by rw [hn, hst]
  have HN := Lib.hid hn
  have HM := Lib.hid hm
  rw [← hn] at c0 hl
  rw [← hm] at k0
  have HA := Lib.hid ha
  have HB := Lib.hid hb
  have HSM := fun w => Lib.hid (strcmp_any (bs s) (bs t) w)
  obtain ⟨c, hc⟩ : ∃ c, c = Lib.compareBytes s t := ⟨_, rfl⟩
  simp only [bs_list] at HSM
  rw [← hc] at HSM ⊢
  have HC := Lib.hid hc
  have HBW : Hid ((bs s).extract 0 n = bs s ∧ (bs t).extract 0 n = bs t ∧ (bs s).extract n n = ⟨#[]⟩ ∧ (bs t).extract n n = ⟨#[]⟩ ∧ (bs s).size = n ∧ (bs t).size = n) := Lib.hid (by
    have e1 : (bs s).size = n := by rw [bs_size, hn]
    have e2 : (bs t).size = n := by rw [bs_size, hm]
    refine ⟨?_, ?_, ?_, ?_, e1, e2⟩
    · rw [← e1]; exact ba_whole _
    · rw [← e2]; exact ba_whole _
    · rw [← e1]; exact ba_end _
    · rw [← e2]; exact ba_end _)
  obtain ⟨W1, hW1⟩ : ∃ W1 : Nat → World, W1 = fun nq => ((((w.drewN nq).alloc (.cells #[.pointer (some ⟨a, 0, none⟩)] 133)).alloc (.cells #[.pointer (some ⟨b, 0, none⟩)] 133)).alloc (.cells #[.slice (some ⟨w.heap.size, 0, none⟩) 1 1] 162)).alloc (.cells #[.slice (some ⟨w.heap.size + 1, 0, none⟩) 1 1] 162) := ⟨_, rfl⟩
  have HSt : Hid (∀ nq, CmpSt w a b s t (w.heap.size + 1 + 1) (w.heap.size + 1 + 1 + 1) 1 (W1 nq)) := Lib.hid fun nq => by
    have e1 := Blk.new (w.drewN nq) 133 #[.pointer (some ⟨a, 0, none⟩)]
    have e2 := Blk.new ((w.drewN nq).alloc (.cells #[.pointer (some ⟨a, 0, none⟩)] 133)) 133 #[.pointer (some ⟨b, 0, none⟩)]
    have e3 := Blk.new (((w.drewN nq).alloc (.cells #[.pointer (some ⟨a, 0, none⟩)] 133)).alloc (.cells #[.pointer (some ⟨b, 0, none⟩)] 133)) 162 #[.slice (some ⟨w.heap.size, 0, none⟩) 1 1]
    have e4 := Blk.new ((((w.drewN nq).alloc (.cells #[.pointer (some ⟨a, 0, none⟩)] 133)).alloc (.cells #[.pointer (some ⟨b, 0, none⟩)] 133)).alloc (.cells #[.slice (some ⟨w.heap.size, 0, none⟩) 1 1] 162)) 162 #[.slice (some ⟨w.heap.size + 1, 0, none⟩) 1 1]
    have hs : (w.drewN nq).heap.size = w.heap.size := rfl
    simp only [World.size_alloc, hs] at e1 e2 e3 e4
    rw [hW1]
    refine ⟨((((below_drewN (Below.refl _ w) nq).alloc (Nat.le_refl _) _).alloc (by simp [hs]) _).alloc (by simp [hs]; omega) _).alloc (by simp [hs]; omega) _, by omega, by omega, by omega, .inl ⟨rfl, w.heap.size, w.heap.size + 1, 1, 1, e3.alloc _, e4, (((e1.alloc _).alloc _).alloc _).cell 0, ((e2.alloc _).alloc _).cell 0, by omega⟩⟩
  have HW1 := Lib.hid (congrFun hW1)
  clear ha hb hn hm hj hjs hst hab hc hW1
  go_enter Tryz.func137, Tryz.ntmps137
  go_wp2
  go_quiet (fail)
  go_wp2
  rw [← HW1.out nq]
  have HS0 := Lib.hid (HSt.out nq)
  clear HSt HW1 c0 k0 hp
  go_loopg [5, 6, 7, 8] 1 (fun gg vx vy v7 v8 wr => ∃ (k R1 R2 : Nat), k ≤ gg ∧ vx = .string ⟨#[]⟩ ∧ vy = .string ⟨#[]⟩ ∧ v7 = .pointer (some ⟨R1, 0, none⟩) ∧ v8 = .pointer (some ⟨R2, 0, none⟩) ∧ Hid (CmpSt w a b s t R1 R2 k wr))
  case atStart => exact ⟨1, _, _, Nat.le_refl _, rfl, rfl, rfl, rfl, HS0⟩
  case round =>
    clear HS0
    obtain ⟨k, R1, R2, hk, rfl, rfl, rfl, rfl, K⟩ := hrel
    obtain ⟨hB, hne, hr1, hr2, ⟨rfl, S1, S2, c1, c2, h1, h2, h3, h4, h5⟩ | ⟨rfl, hcb, a1, a2, c1, c2, h1, h2⟩⟩ := K.out
    · have HN1 := Lib.hid (next_one R1 S1 c1 a s wr h1 h3 (Blk.below HA.out hB lt))
      have H2 := Lib.hid (And.intro h2 h4)
      have HBr := Lib.hid hB
      clear hB h1 h2 h3 h4 K
      go_wp2_with fail
      refine HN1.out.mono ?_
      rintro e w4 ⟨rfl, hk1, hg4⟩
      have hB4 : Below w.heap.size w w4 := below_grown HBr.out hg4 (Nat.le_refl _) hr1
      have H24 := Lib.hid (And.intro (H2.out.1.kept hg4 (by simp; omega)) (cell_kept hg4 H2.out.2 (by simp; omega)))
      have HK1 := Lib.hid hk1
      have HN2 := Lib.hid (next_one R2 S2 c2 b t w4 H24.out.1 H24.out.2 (Blk.below HB.out hB4 ltb))
      have HB4 := Lib.hid hB4
      clear hk1 hg4 hB4 H2 H24 HN1 HBr
      go_wp2_with fail
      refine HN2.out.mono ?_
      rintro e w5 ⟨rfl, hk2, hg5⟩
      have HB5 : Hid (Below w.heap.size w w5) := Lib.hid (below_grown HB4.out hg5 (Nat.le_refl _) hr2)
      have HKK : Hid (Blk w5 R1 162 #[.slice (some ⟨S1, 0, none⟩) 0 c1] ∧ Blk w5 R2 162 #[.slice (some ⟨S2, 0, none⟩) 0 c2]) := Lib.hid ⟨HK1.out.kept hg5 (by simp; omega), hk2⟩
      obtain ⟨hb1, hb2, hb3, hb4, hb5, hb6⟩ := HBW.out
      clear hk2 hg5 HK1 HB4 HN2
      by_cases h0 : n = 0
      · have HZ : Hid (c = 0) := Lib.hid (by
          have e1 : s = [] := List.length_eq_zero_iff.1 (by have := HN.out; omega)
          have e2 : t = [] := List.length_eq_zero_iff.1 (by have := HM.out; omega)
          rw [HC.out, e1, e2]; rfl)
        rw [h0] at hb5 hb6
        clear hb1 hb2 hb3 hb4 HKK h0
        go_wp2
        go_ret
        exact ⟨by rw [HZ.out]; rfl, HB5.out⟩
      · have hn0 : ((n : Int) == 0) = false := by simp; omega
        have z1 : (0 : Int) ≤ (n : Int) := by omega
        have H0 := Lib.hid h0
        clear h0
        go_wp2
        refine wp_region_still_tail 6 (by kernel_rfl) (by kernel_rfl) ?_
        show wpStill _ _ (World.drew w5) _ _ _
        obtain ⟨W, hW⟩ : ∃ W, W = World.drew w5 := ⟨_, rfl⟩
        have HW := Lib.hid hW
        rw [← hW]
        have HBW2 : Hid (Below w.heap.size w W) := Lib.hid (by rw [hW]; exact HB5.out.drew)
        have HKW : Hid (Blk W R1 162 #[.slice (some ⟨S1, 0, none⟩) 0 c1] ∧ Blk W R2 162 #[.slice (some ⟨S2, 0, none⟩) 0 c2]) := Lib.hid (by rw [hW]; exact HKK.out)
        clear hW HKK HB5
        simp only [List.take_succ_cons, List.take_zero, List.drop_succ_cons, List.drop_zero]
        repeat still_step
        refine wpStill_nil ?_
        show wpList _ _ _ _ _ (World.drew w5)
        rw [← HW.out]
        clear HW
        go_wp2_with fail
        refine (HSM _).out.mono ?_
        rintro e w6 ⟨rfl, rfl⟩
        have f1 := HKW.out.1.cell 0
        have f2 := HKW.out.2.cell 0
        have g1 := HKW.out.1.lt
        have g2 := HKW.out.2.lt
        by_cases hc0 : c = 0
        · have HZ : Hid (Lib.compareBytes s t = 0) := Lib.hid (by rw [← HC.out, hc0])
          have hc1 : (c == 0) = true := by simpa using hc0
          have hc2 : (c != 0) = false := by simp [hc0]
          have HC0 := Lib.hid hc0
          clear hc0 HSM
          go_wp2
          go_quiet (fail)
          obtain ⟨W2, hW2⟩ : ∃ W2, W2 = W.drewN nq := ⟨_, rfl⟩
          rw [← hW2]
          have HB2 : Hid (Below w.heap.size w W2) := Lib.hid (by rw [hW2]; exact below_drewN HBW2.out _)
          have HK2 : Hid (Blk W2 R1 162 #[.slice (some ⟨S1, 0, none⟩) 0 c1] ∧ Blk W2 R2 162 #[.slice (some ⟨S2, 0, none⟩) 0 c2]) := Lib.hid (by rw [hW2]; exact HKW.out)
          clear hW2 f1 f2 g1 g2
          have f1 := HK2.out.1.cell 0
          have f2 := HK2.out.2.cell 0
          have g1 := HK2.out.1.lt
          have g2 := HK2.out.2.lt
          go_wp2
          go_roundg 0
          case rel => exact ⟨0, W2.heap.size, W2.heap.size + 1, Nat.le_refl _, rfl, rfl, rfl, rfl, Lib.hid (by
            have e1 := Blk.new W2 162 #[.slice (some ⟨S1, 0, none⟩) 0 c1]
            have e2 := Blk.new (W2.alloc (.cells #[.slice (some ⟨S1, 0, none⟩) 0 c1] 162)) 162 #[.slice (some ⟨S2, 0, none⟩) 0 c2]
            simp only [World.size_alloc] at e2
            have hsz := HB2.out.size
            exact ⟨(HB2.out.alloc hsz _).alloc (by simp; omega) _, by omega, hsz, by omega, .inr ⟨rfl, HZ.out, _, _, _, _, e1.alloc _, e2⟩⟩)⟩
          case measure => omega
        · have hc1 : (c == 0) = false := by simpa using hc0
          have hc2 : (c != 0) = true := by simpa using hc0
          clear hc0 HSM
          go_wp2
          go_ret
          exact ⟨rfl, HBW2.out⟩
    · have HN1 := Lib.hid (next_nil R1 a1 c1 wr h1)
      have H2 := Lib.hid h2
      have HBr := Lib.hid hB
      have HZ : Hid (c = 0) := Lib.hid (HC.out.trans hcb)
      clear hB h1 h2 K hcb HSM
      go_wp2_with fail
      refine HN1.out.mono ?_
      rintro e w4 ⟨rfl, hB4⟩
      have HN2 := Lib.hid (next_nil R2 a2 c2 w4 (H2.out.below hB4 H2.out.lt))
      have HB4 := Lib.hid (HBr.out.trans (hB4.mono HBr.out.size))
      clear hB4 HN1 H2
      go_wp2_with fail
      refine HN2.out.mono ?_
      rintro e w5 ⟨rfl, hB5⟩
      have HB5 := Lib.hid (HB4.out.trans (hB5.mono HB4.out.size))
      clear hB5 HN2
      go_wp2
      go_ret
      exact ⟨by rw [HZ.out]; rfl, HB5.out⟩
/-- compare, of texts of at most so many bytes. -/
def CmpOK (lim : Nat) : Prop := ∀ (a b : Nat) (s t : List UInt8) (w : World), TxtAt w a s → TxtAt w b t → s.length ≤ lim → t.length ≤ lim →
  Calls Tryz.prog 137 #[.pointer (some ⟨a, 0, none⟩), .pointer (some ⟨b, 0, none⟩)] w fun e w' => e = .returned (.int .i64 (cmpT s t)) ∧ Below w.heap.size w w'
theorem compare_4096 : CmpOK 4096 := fun a b s t w ha hb hs ht => by
  have ha := ha.leaf hs
  have hb := hb.leaf ht
  by_cases hab : a = b
  · subst hab
    have e := ha.unique hb
    subst e
    unfold cmpT
    rw [if_pos rfl, compareBytes_self]
    exact compare_same a s w ha
  · unfold cmpT
    by_cases hl : s.length = t.length
    · rw [if_pos hl]
      exact compare_bytes a b s t w hab ha hb hl (by omega)
    · rw [if_neg hl]
      exact compare_size a b s t w hab ha hb hl
/-- String, of texts of at most so many bytes. -/
def StrOK (lim : Nat) : Prop := ∀ (a : Nat) (t : List UInt8) (w : World), TxtAt w a t → t.length ≤ lim → Calls Tryz.prog 87 #[.pointer (some ⟨a, 0, none⟩)] w fun e w' => e = .returned (.string (bs t)) ∧ Below w.heap.size w w'
theorem string_4096 : StrOK 4096 := fun a t w ha ht => string_leaf a t w (ha.leaf ht) (by omega)
end Go.Proofs.YtodnlcbnbkkanaaGreatDoor
end
section
namespace Go.Proofs.YtodnlcbnbkkanaaGreatDoor
open Go Go.RowKit

set_option maxRecDepth 100000 in
set_option maxHeartbeats 1000000 in
theorem whole_ba (s : ByteArray) (w : World) (hl : s.size ≤ 9223372036854775807) :
    Calls Tryz.prog 140 #[.string s] w fun e w' => e = .returned (.pointer (some ⟨w.heap.size, 0, none⟩)) ∧ w' = w.alloc (.cells #[.int .i64 s.size, .string s, .slice none 0 0] 192) := by
  obtain ⟨n, hn⟩ : ∃ n, n = s.size := ⟨_, rfl⟩
  have hs := hn.symm
  rw [← hn] at hl ⊢
  clear hn
  go_enter Tryz.func140, Tryz.ntmps140
  go_wp2
  go_ret
  exact ⟨rfl, rfl⟩
theorem Tryz.info129e : (Tryz.prog.info? 133).map (fun i => (i.zero, i.size, i.bytes)) = some (some (.pointer none), 1, 8) := by kernel_rfl
/-- Pointers in a row, each to a text told whole. -/
def LeavesAt (W : World) (a : Option Addr) (ts : List (List UInt8)) : Prop := ∀ (i : Nat) (t : List UInt8), ts[i]? = some t → ∃ g off b, a = some ⟨g, off, none⟩ ∧ g < W.heap.size ∧ W.cell? ⟨g, off + i, none⟩ = some (.pointer (some ⟨b, 0, none⟩)) ∧ Leaf W b t
theorem LeavesAt.below {W V : World} {a : Option Addr} {ts : List (List UInt8)} (h : LeavesAt W a ts) (hB : Below W.heap.size W V) : LeavesAt V a ts := fun i t ht => by
  obtain ⟨g, off, b, h1, h2, h3, h4⟩ := h i t ht
  exact ⟨g, off, b, h1, Nat.lt_of_lt_of_le h2 hB.size, (hB.cell (p := ⟨g, off + i, none⟩) h2).trans h3, h4.below hB⟩
/-- How far join has come: u has been joined. -/
def JoinSt (w : World) (u : List UInt8) (W : World) : Prop :=
  Below w.heap.size w W ∧
  ((u = [] ∧ Blk W w.heap.size 192 #[.int .i64 0, .string ⟨#[]⟩, .slice none 0 0]) ∨
   (u ≠ [] ∧ ∃ G X cap cs, Blk W w.heap.size 192 #[.int .i64 u.length, .string ⟨#[]⟩, .slice (some ⟨G, 0, none⟩) 1 cap] ∧ Blk W G 133 cs ∧ cs[0]? = some (.pointer (some ⟨X, 0, none⟩)) ∧ Leaf W X u ∧ w.heap.size < G ∧ X ≠ w.heap.size))
/-- The same, but for out's size, which is yet to be brought up. -/
def JoinMid (w : World) (u : List UInt8) (m : Int) (W : World) : Prop :=
  Below w.heap.size w W ∧
  ((u = [] ∧ Blk W w.heap.size 192 #[.int .i64 m, .string ⟨#[]⟩, .slice none 0 0]) ∨
   (u ≠ [] ∧ ∃ G X cap cs, Blk W w.heap.size 192 #[.int .i64 m, .string ⟨#[]⟩, .slice (some ⟨G, 0, none⟩) 1 cap] ∧ Blk W G 133 cs ∧ cs[0]? = some (.pointer (some ⟨X, 0, none⟩)) ∧ Leaf W X u ∧ w.heap.size < G ∧ X ≠ w.heap.size))

set_option maxRecDepth 100000 in
set_option maxHeartbeats 8000000 in
theorem join_leaves (a : Option Addr) (c : Nat) (ts : List (List UInt8)) (w : World) (ha : LeavesAt w a ts) (hn : ts.length ≤ 281474976710656) (ht : ts.flatten.length ≤ 4096) :
    Calls Tryz.prog 141 #[.slice a ts.length c] w fun e w' => ∃ b, e = .returned (.pointer (some ⟨b, 0, none⟩)) ∧ Leaf w' b ts.flatten ∧ Below w.heap.size w w' := by
  obtain ⟨i133, ti, tz, tis, tb⟩ := info_parts Tryz.info129e
  have HA := Lib.hid ha
  have HT := Lib.hid ht
  obtain ⟨n, hnn⟩ : ∃ n, n = ts.length := ⟨_, rfl⟩
  have HN := Lib.hid hnn
  rw [← hnn] at hn ⊢
  have HS0 : Hid (JoinSt w [] (w.alloc (.cells #[.int .i64 0, .string ⟨#[]⟩, .slice none 0 0] 192))) := Lib.hid ⟨(Below.refl _ _).alloc (Nat.le_refl _) _, .inl ⟨rfl, Blk.new w 192 _⟩⟩
  clear ha ht hnn
  go_enter Tryz.func141, Tryz.ntmps141
  go_wp2
  go_loopw [11] (fun vj wr => ∃ j : Nat, vj = .int .i64 j ∧ j ≤ n ∧ Hid (JoinSt w (ts.take j).flatten wr)) (fun vj _ => n - (intOf vj).toNat)
  case atStart => exact ⟨0, rfl, Nat.zero_le _, HS0⟩
  case round =>
    clear HS0
    obtain ⟨j, rfl, hj, K⟩ := hrel
    by_cases hlt : j < n
    · obtain ⟨t, hts⟩ : ∃ t, ts[j]? = some t := ⟨_, List.getElem?_eq_getElem (by rw [← HN.out]; exact hlt)⟩
      obtain ⟨g, off, b, rfl, hg, hcell, hleaf⟩ := HA.out j t hts
      have hcell := (K.out.1.cell (p := ⟨g, off + j, none⟩) hg).trans hcell
      have hg' := Nat.lt_of_lt_of_le hg K.out.1.size
      have hbl := Blk.lt hleaf
      have hleaf := Blk.below (show Blk w b 192 _ from hleaf) K.out.1 hbl
      have p0 := hleaf.cell 0
      have p1 := hleaf.cell 1
      have lp := hleaf.lt
      have hfl : (ts.take (j + 1)).flatten = (ts.take j).flatten ++ t := by rw [take_snoc ts j t hts, List.flatten_append]; simp
      have hle : (ts.take j).flatten.length + t.length ≤ 4096 := by
        have h1 : ((ts.take (j + 1)).flatten ++ (ts.drop (j + 1)).flatten).length = ts.flatten.length := by rw [← List.flatten_append, List.take_append_drop]
        rw [List.length_append, hfl, List.length_append] at h1
        have := HT.out
        omega
      have z1 : (j : Int) < (n : Int) := by omega
      have z0 : (0 : Int) ≤ (j : Int) := by omega
      have HFl := Lib.hid hfl
      obtain ⟨u, hu⟩ : ∃ u, u = (ts.take j).flatten := ⟨_, rfl⟩
      rw [← hu] at K HFl hle
      obtain ⟨q, hq⟩ : ∃ q, q = t.length := ⟨_, rfl⟩
      have Hq := Lib.hid hq
      obtain ⟨m, hm⟩ : ∃ m, m = u.length := ⟨_, rfl⟩
      have Hm := Lib.hid hm
      rw [← hq] at p0 hle
      rw [← hm] at hle
      have HLf := Lib.hid hleaf
      obtain ⟨st, hst⟩ : ∃ st, st = bs t := ⟨_, rfl⟩
      have HSt := Lib.hid hst
      rw [← hst] at p1
      have hbO : b ≠ w.heap.size := by omega
      have hw : IntKind.i64.wrap ((m : Int) + (q : Int)) = (m : Int) + (q : Int) := IntWalk.i64_in _ (by omega)
      clear hleaf hfl hu hq hm hts hst
      have hneg : IntKind.i64.wrap ((0 : Int) - 1) = -1 := by decide
      have hone : IntKind.i64.wrap ((1 : Int) - 1) = 0 := by decide
      by_cases ht0 : q = 0
      · have htn : t = [] := List.length_eq_zero_iff.1 (by have := Hq.out; omega)
        have Htn := Lib.hid htn
        have hq1 : ((q : Int) == 0) = true := by simp [ht0]
        have KP : Hid (Blk wr b 192 #[.int .i64 (q : Int), .string st, .slice none 0 0]) := Lib.hid (by rw [Hq.out, HSt.out]; exact HLf.out)
        have Ht0 := Lib.hid ht0
        clear htn ht0
        obtain ⟨hB, ⟨hu0, hO⟩ | ⟨hu0, G, X, cap, cs, hO, hG, hc, hX, hGl, hXO⟩⟩ := K.out
        · have KO : Hid (Blk wr w.heap.size 192 #[.int .i64 (m : Int), .string ⟨#[]⟩, .slice none 0 0]) := Lib.hid (by rw [show (m : Int) = 0 by have := Hm.out; rw [hu0] at this; simp at this; omega]; exact hO)
          have KZ : Hid (∀ V, V = World.drew wr → JoinSt w (ts.take (j + 1)).flatten (V.setCell ⟨w.heap.size, 0, none⟩ (.int .i64 ((m : Int) + (q : Int))))) := Lib.hid fun V hV => by
            rw [HFl.out, Htn.out, List.append_nil, hV]
            refine ⟨hB.drew.setCell (p := ⟨w.heap.size, 0, none⟩) (Nat.le_refl _) _, .inl ⟨hu0, ?_⟩⟩
            have := (hO.drew).set 0 (.int .i64 ((m : Int) + (q : Int)))
            have e1 : m = 0 := by have h := Hm.out; rw [hu0] at h; exact h
            have e2 := Ht0.out
            rw [show ((m : Int) + (q : Int)) = 0 by omega] at this ⊢
            exact this
          have c0 := KO.out.cell 0
          have c2 := KO.out.cell 2
          have lO := KO.out.lt
          clear K hB hO
          go_wp2
          refine wp_region_still_tail 9 (by kernel_rfl) (by kernel_rfl) ?_
          show wpStill _ _ (World.drew wr) _ _ _
          obtain ⟨V, hV⟩ : ∃ V, V = World.drew wr := ⟨_, rfl⟩
          have HV := Lib.hid hV
          rw [← hV]
          have KOV := KO.out.below (Below.refl _ wr).drew KO.out.lt
          rw [← hV] at KOV
          have KPV := KP.out.below (Below.refl _ wr).drew KP.out.lt
          rw [← hV] at KPV
          have v0 := KOV.cell 0
          have v1 := KPV.cell 0
          have vl0 := KOV.lt
          have vl1 := KPV.lt
          have vf := KOV.frozen 0
          have HZV := Lib.hid (KZ.out V hV)
          clear hV KOV KPV KO KP KZ
          simp only [List.take_succ_cons, List.take_zero, List.drop_succ_cons, List.drop_zero]
          repeat still_step
          refine wpStill_nil ?_
          show wpList _ _ _ _ _ (World.drew wr)
          rw [← HV.out]
          clear HV
          go_wp2
          go_roundw
          case rel => exact ⟨j + 1, by go_num, by omega, HZV⟩
          case measure => simp [intOf]; omega
        · have KO : Hid (Blk wr w.heap.size 192 #[.int .i64 (m : Int), .string ⟨#[]⟩, .slice (some ⟨G, 0, none⟩) 1 cap]) := Lib.hid (by rw [Hm.out]; exact hO)
          have KZ : Hid (∀ V, V = World.drew wr → JoinSt w (ts.take (j + 1)).flatten (V.setCell ⟨w.heap.size, 0, none⟩ (.int .i64 ((m : Int) + (q : Int))))) := Lib.hid fun V hV => by
            rw [HFl.out, Htn.out, List.append_nil, hV]
            refine ⟨hB.drew.setCell (p := ⟨w.heap.size, 0, none⟩) (Nat.le_refl _) _, .inr ⟨hu0, G, X, cap, cs, ?_, (hG.drew).other (by show G ≠ w.heap.size; omega) _, hc, (Blk.drew hX).other (by show X ≠ w.heap.size; exact hXO) _, hGl, hXO⟩⟩
            have := (hO.drew).set 0 (.int .i64 ((m : Int) + (q : Int)))
            rw [show ((m : Int) + (q : Int)) = (u.length : Int) by have := Hm.out; have := Ht0.out; omega] at this ⊢
            exact this
          have c0 := KO.out.cell 0
          have c2 := KO.out.cell 2
          have lO := KO.out.lt
          clear K hB hO
          go_wp2
          refine wp_region_still_tail 9 (by kernel_rfl) (by kernel_rfl) ?_
          show wpStill _ _ (World.drew wr) _ _ _
          obtain ⟨V, hV⟩ : ∃ V, V = World.drew wr := ⟨_, rfl⟩
          have HV := Lib.hid hV
          rw [← hV]
          have KOV := KO.out.below (Below.refl _ wr).drew KO.out.lt
          rw [← hV] at KOV
          have KPV := KP.out.below (Below.refl _ wr).drew KP.out.lt
          rw [← hV] at KPV
          have v0 := KOV.cell 0
          have v1 := KPV.cell 0
          have vl0 := KOV.lt
          have vl1 := KPV.lt
          have vf := KOV.frozen 0
          have HZV := Lib.hid (KZ.out V hV)
          clear hV KOV KPV KO KP KZ
          simp only [List.take_succ_cons, List.take_zero, List.drop_succ_cons, List.drop_zero]
          repeat still_step
          refine wpStill_nil ?_
          show wpList _ _ _ _ _ (World.drew wr)
          rw [← HV.out]
          clear HV
          go_wp2
          go_roundw
          case rel => exact ⟨j + 1, by go_num, by omega, HZV⟩
          case measure => simp [intOf]; omega
      · have hq1 : ((q : Int) == 0) = false := by simp [ht0]
        have htn : t ≠ [] := fun h => ht0 (by rw [Hq.out, h]; rfl)
        have Htn := Lib.hid htn
        have Ht0 := Lib.hid ht0
        clear htn ht0
        obtain ⟨hB, ⟨hu0, hO⟩ | ⟨hu0, G, X, cap, cs, hO, hG, hc, hX, hGl, hXO⟩⟩ := K.out
        · have hm0 : (m : Int) = 0 := by have := Hm.out; rw [hu0] at this; simp at this; omega
          have KO0 : Hid (Blk wr w.heap.size 192 #[.int .i64 (m : Int), .string ⟨#[]⟩, .slice none 0 0]) := Lib.hid (by rw [hm0]; exact hO)
          have c0 := KO0.out.cell 0
          have c2 := KO0.out.cell 2
          have lO := KO0.out.lt
          have HBr := Lib.hid hB
          have Hm0 := Lib.hid hm0
          have Hu0 := Lib.hid hu0
          clear K hB hO hm0 hu0
          go_wp2
          go_quiet (fail)
          obtain ⟨W2, hW2⟩ : ∃ W2, W2 = wr.drewN nq := ⟨_, rfl⟩
          rw [← hW2]
          have hB2 : Below w.heap.size w W2 := by rw [hW2]; exact below_drewN HBr.out _
          have hO2 : Blk W2 w.heap.size 192 #[.int .i64 (m : Int), .string ⟨#[]⟩, .slice none 0 0] := by rw [hW2]; exact KO0.out
          have hP2 : Blk W2 b 192 #[.int .i64 (q : Int), .string st, .slice none 0 0] := by rw [hW2, Hq.out, HSt.out]; exact HLf.out
          clear hW2 c0 c2 lO p0 p1 lp hcell
          have c0 := hO2.cell 0
          have c2 := hO2.cell 2
          have lO := hO2.lt
          have HO3 := Lib.hid (hO2.alloc (.cells #[.pointer (some ⟨b, 0, none⟩)] 133))
          have HP3 := Lib.hid (hP2.alloc (.cells #[.pointer (some ⟨b, 0, none⟩)] 133))
          have HB3 := Lib.hid (hB2.alloc hB2.size (.cells #[.pointer (some ⟨b, 0, none⟩)] 133))
          have HCn := Lib.hid (cells_new W2 #[.pointer (some ⟨b, 0, none⟩)] 133)
          have hsz2 : w.heap.size < W2.heap.size := lO
          clear hB2 hO2 hP2
          go_wp2_with (at_builtin; (refine wpList_append_lies _ rfl (.tmp 25) (.tmp 27) 129 rfl (w.heap.size + 1) 133 i133 _ 1 8 Tryz.underlying129 ti tz tis tb rfl (by omega) (.slice none 0 0) 0 [] rfl ⟨rfl, .inl ⟨rfl, rfl⟩⟩ ⟨W2.heap.size, 0, none⟩ 1 1 [.pointer (some ⟨b, 0, none⟩)] rfl rfl HCn.out (fun x hx => by simp at hx; subst hx; rfl) (by omega) (by unfold maxLen; omega) (by omega) (by simp; omega) _ rfl ?_))
          intro G cap w4 hown hgr hGe hGl
          have hO4 : Blk w4 w.heap.size 192 #[.int .i64 (m : Int), .string ⟨#[]⟩, .slice none 0 0] := HO3.out.kept hgr (by simp [Value.ownBlock])
          have hP4 : Blk w4 b 192 #[.int .i64 (q : Int), .string st, .slice none 0 0] := HP3.out.kept hgr (by simp [Value.ownBlock])
          have hB4 : Below w.heap.size w w4 := HB3.out.grown hgr HB3.out.size (fun j e => by simp [Value.ownBlock] at e)
          obtain ⟨cs, hG4, hcs, hGb⟩ : ∃ cs, Blk w4 G 133 cs ∧ cs[0]? = some (.pointer (some ⟨b, 0, none⟩)) ∧ w.heap.size + 1 ≤ G := by
            rcases hown.2 with ⟨h, _⟩ | ⟨g', cap', cur, h, h1, h2, _, _, _, h3⟩
            · simp at h
            · simp only [Value.slice.injEq, Option.some.injEq, Addr.mk.injEq, and_true, true_and] at h
              obtain ⟨rfl, _⟩ := h
              refine ⟨cur, h2, ?_, h1⟩
              have := congrArg (fun l => l[0]?) h3
              simpa using this
          have d0 := hO4.cell 0
          have d2 := hO4.cell 2
          have f2 := hO4.frozen 2
          have lO4 := hO4.lt
          have KO : Hid (Blk (w4.setCell ⟨w.heap.size, 2, none⟩ (.slice (some ⟨G, 0, none⟩) 1 cap)) w.heap.size 192 #[.int .i64 (m : Int), .string ⟨#[]⟩, .slice (some ⟨G, 0, none⟩) 1 cap]) := Lib.hid (hO4.set 2 _)
          have KP : Hid (Blk (w4.setCell ⟨w.heap.size, 2, none⟩ (.slice (some ⟨G, 0, none⟩) 1 cap)) b 192 #[.int .i64 (q : Int), .string st, .slice none 0 0]) := Lib.hid (hP4.other (by show b ≠ w.heap.size; exact hbO) _)
          have KZ : Hid (∀ V, V = World.drew (w4.setCell ⟨w.heap.size, 2, none⟩ (.slice (some ⟨G, 0, none⟩) 1 cap)) → JoinSt w (ts.take (j + 1)).flatten (V.setCell ⟨w.heap.size, 0, none⟩ (.int .i64 ((m : Int) + (q : Int))))) := Lib.hid fun V hV => by
            rw [HFl.out, Hu0.out, List.nil_append, hV]
            refine ⟨((hB4.setCell (p := ⟨w.heap.size, 2, none⟩) (Nat.le_refl _) _).drew).setCell (p := ⟨w.heap.size, 0, none⟩) (Nat.le_refl _) _, .inr ⟨Htn.out, G, b, cap, cs, ?_, Blk.other (Blk.drew (hG4.other (by show G ≠ w.heap.size; omega) _)) (by show G ≠ w.heap.size; omega) _, hcs, ?_, by omega, hbO⟩⟩
            · have := (KO.out.drew).set 0 (.int .i64 ((m : Int) + (q : Int)))
              have e1 := Hm0.out
              rw [show ((m : Int) + (q : Int)) = (t.length : Int) by have := Hq.out; omega] at this ⊢
              exact this
            · have := (KP.out.drew).other (a := ⟨w.heap.size, 0, none⟩) (by show b ≠ w.heap.size; exact hbO) (.int .i64 ((m : Int) + (q : Int)))
              rw [Hq.out, HSt.out] at this
              rw [Hq.out]
              exact this
          clear hown hgr hGe hO4 hP4 hB4 hG4 hcs HO3 HP3 HB3 HCn c0 c2 lO KO0
          go_wp2
          refine wp_region_still_tail 9 (by kernel_rfl) (by kernel_rfl) ?_
          show wpStill _ _ (World.drew (w4.setCell ⟨w.heap.size, 2, none⟩ (.slice (some ⟨G, 0, none⟩) 1 cap))) _ _ _
          obtain ⟨V, hV⟩ : ∃ V, V = World.drew (w4.setCell ⟨w.heap.size, 2, none⟩ (.slice (some ⟨G, 0, none⟩) 1 cap)) := ⟨_, rfl⟩
          have HV := Lib.hid hV
          rw [← hV]
          have KOV := KO.out.below (Below.refl _ (w4.setCell ⟨w.heap.size, 2, none⟩ (.slice (some ⟨G, 0, none⟩) 1 cap))).drew KO.out.lt
          rw [← hV] at KOV
          have KPV := KP.out.below (Below.refl _ (w4.setCell ⟨w.heap.size, 2, none⟩ (.slice (some ⟨G, 0, none⟩) 1 cap))).drew KP.out.lt
          rw [← hV] at KPV
          have v0 := KOV.cell 0
          have v1 := KPV.cell 0
          have vl0 := KOV.lt
          have vl1 := KPV.lt
          have vf := KOV.frozen 0
          have HZV := Lib.hid (KZ.out V hV)
          clear hV KOV KPV KO KP KZ
          simp only [List.take_succ_cons, List.take_zero, List.drop_succ_cons, List.drop_zero]
          repeat still_step
          refine wpStill_nil ?_
          show wpList _ _ _ _ _ (World.drew (w4.setCell ⟨w.heap.size, 2, none⟩ (.slice (some ⟨G, 0, none⟩) 1 cap)))
          rw [← HV.out]
          clear HV
          go_wp2
          go_roundw
          case rel => exact ⟨j + 1, by go_num, by omega, HZV⟩
          case measure => simp [intOf]; omega
        · have KO0 : Hid (Blk wr w.heap.size 192 #[.int .i64 (m : Int), .string ⟨#[]⟩, .slice (some ⟨G, 0, none⟩) 1 cap]) := Lib.hid (by rw [Hm.out]; exact hO)
          obtain ⟨su, hsu⟩ : ∃ su, su = bs u := ⟨_, rfl⟩
          have KX0 : Hid (Blk wr X 192 #[.int .i64 (m : Int), .string su, .slice none 0 0]) := Lib.hid (by rw [Hm.out, hsu]; exact hX)
          have KP0 : Hid (Blk wr b 192 #[.int .i64 (q : Int), .string st, .slice none 0 0]) := Lib.hid (by rw [Hq.out, HSt.out]; exact HLf.out)
          have hsz1 : su.size = m := by rw [hsu, bs_size, Hm.out]
          have hsz2 : st.size = q := by rw [HSt.out, bs_size, Hq.out]
          have HCat : Hid (su ++ st = bs (u ++ t)) := Lib.hid (by
            rw [hsu, HSt.out]
            apply ByteArray.ext
            rw [ByteArray.data_append]
            unfold bs
            simp)
          have c0 := KO0.out.cell 0
          have c2 := KO0.out.cell 2
          have lO := KO0.out.lt
          have hGc := (hG.cell 0).trans hc
          have lG := hG.lt
          have x0 := KX0.out.cell 0
          have x1 := KX0.out.cell 1
          have lX := KX0.out.lt
          have HBr := Lib.hid hB
          have Hu0 := Lib.hid hu0
          have HGB := Lib.hid hG
          have HCs := Lib.hid hc
          have h4 : (m : Int) + (q : Int) ≤ 4096 := by omega
          clear K hB hO hu0 hX hG hc hsu
          go_wp2
          go_quiet (fail)
          obtain ⟨W2, hW2⟩ : ∃ W2, W2 = wr.drewN nq := ⟨_, rfl⟩
          rw [← hW2]
          have HB2 : Hid (Below w.heap.size w W2) := Lib.hid (by rw [hW2]; exact below_drewN HBr.out _)
          have hO2 : Blk W2 w.heap.size 192 #[.int .i64 (m : Int), .string ⟨#[]⟩, .slice (some ⟨G, 0, none⟩) 1 cap] := by rw [hW2]; exact KO0.out
          have hP2 : Blk W2 b 192 #[.int .i64 (q : Int), .string st, .slice none 0 0] := by rw [hW2]; exact KP0.out
          have hX2 : Blk W2 X 192 #[.int .i64 (m : Int), .string su, .slice none 0 0] := by rw [hW2]; exact KX0.out
          have hG2 : Blk W2 G 133 cs := by rw [hW2]; exact HGB.out
          have HO2 := Lib.hid hO2
          have HP2 := Lib.hid hP2
          have HG2 := Lib.hid hG2
          clear hW2 c0 c2 lO p0 p1 lp hcell x0 x1 lX hGc lG
          have c0 := hO2.cell 0
          have c2 := hO2.cell 2
          have lO := hO2.lt
          have p0 := hP2.cell 0
          have p1 := hP2.cell 1
          have lp := hP2.lt
          have x0 := hX2.cell 0
          have x1 := hX2.cell 1
          have lX := hX2.lt
          have hGc := (hG2.cell 0).trans HCs.out
          have lG := hG2.lt
          have fG := hG2.frozen 0
          have hGO : G ≠ w.heap.size := by omega
          have hbG : b ≠ G := by omega
          clear hO2 hP2 hX2 hG2 KO0 KX0 KP0 HGB HBr
          go_wp2
          obtain ⟨L, hL⟩ : ∃ L, L = W2.heap.size := ⟨_, rfl⟩
          obtain ⟨W3, hW3⟩ : ∃ W3, W3 = (W2.setCell ⟨G, 0, none⟩ (.pointer (some ⟨L, 0, none⟩))).alloc (.cells #[.int .i64 ((m : Int) + (q : Int)), .string (su ++ st), .slice none 0 0] 192) := ⟨_, rfl⟩
          have hLO : w.heap.size < L := by omega
          have hGL : G < L := by omega
          have hsz : (W2.setCell ⟨G, 0, none⟩ (.pointer (some ⟨L, 0, none⟩))).heap.size = L := by simp [World.setCell, hL]
          have KO : Hid (Blk W3.drew w.heap.size 192 #[.int .i64 (m : Int), .string ⟨#[]⟩, .slice (some ⟨G, 0, none⟩) 1 cap]) := Lib.hid (by
            rw [hW3]
            exact ((HO2.out.other (by show w.heap.size ≠ G; omega) _).alloc _).drew)
          have KP : Hid (Blk W3.drew b 192 #[.int .i64 (q : Int), .string st, .slice none 0 0]) := Lib.hid (by
            rw [hW3]
            exact ((HP2.out.other (by show b ≠ G; exact hbG) _).alloc _).drew)
          have KG : Hid (Blk W3.drew G 133 (cs.setIfInBounds 0 (.pointer (some ⟨L, 0, none⟩)))) := Lib.hid (by
            rw [hW3]
            exact ((HG2.out.set 0 _).alloc _).drew)
          have KX : Hid (Blk W3.drew L 192 #[.int .i64 ((m : Int) + (q : Int)), .string (su ++ st), .slice none 0 0]) := Lib.hid (by
            have := Blk.new (W2.setCell ⟨G, 0, none⟩ (.pointer (some ⟨L, 0, none⟩))) 192 #[.int .i64 ((m : Int) + (q : Int)), .string (su ++ st), .slice none 0 0]
            rw [hsz] at this
            rw [hW3]
            exact this.drew)
          have KB : Hid (Below w.heap.size w W3.drew) := Lib.hid (by
            rw [hW3]
            have h1 := HB2.out.setCell (p := ⟨G, 0, none⟩) (by show w.heap.size ≤ G; omega) (.pointer (some ⟨L, 0, none⟩))
            exact (h1.alloc h1.size _).drew)
          have hun : u ++ t ≠ [] := by simp [Hu0.out]
          have hcs : 0 < cs.size := by
            rcases Nat.eq_zero_or_pos cs.size with h | h
            · have := HCs.out
              rw [Array.getElem?_eq_none (by omega)] at this
              cases this
            · exact h
          have KZ : Hid (∀ V, V = World.drew W3.drew → JoinSt w (ts.take (j + 1)).flatten (V.setCell ⟨w.heap.size, 0, none⟩ (.int .i64 ((m : Int) + (q : Int))))) := Lib.hid fun V hV => by
            rw [HFl.out, hV]
            have hlen : ((m : Int) + (q : Int)) = ((u ++ t).length : Int) := by rw [List.length_append, ← Hm.out, ← Hq.out]; simp
            refine ⟨KB.out.drew.setCell (p := ⟨w.heap.size, 0, none⟩) (Nat.le_refl _) _, .inr ⟨hun, G, L, cap, cs.setIfInBounds 0 (.pointer (some ⟨L, 0, none⟩)), ?_, (KG.out.drew).other (by show G ≠ w.heap.size; omega) _, by simp [hcs], ?_, by omega, by show L ≠ w.heap.size; omega⟩⟩
            · have := (KO.out.drew).set 0 (.int .i64 ((m : Int) + (q : Int)))
              rw [hlen] at this ⊢
              exact this
            · have := (KX.out.drew).other (a := ⟨w.heap.size, 0, none⟩) (by show L ≠ w.heap.size; omega) (.int .i64 ((m : Int) + (q : Int)))
              show Blk _ L 192 _
              rw [← HCat.out, ← hlen]
              exact this
          have HL := Lib.hid hL
          have HW3 := Lib.hid hW3
          clear hL hW3 KG KX KB hsz
          have hcat : ¬ 9223372036854775807 < m + q := by omega
          have hcat2 : ¬ 9223372036854775807 < su.size + st.size := by omega
          go_region_law (go_simp; refine (whole_ba (su ++ st) _ (by simp; omega)).mono ?_; rintro e w5 ⟨rfl, rfl⟩)
          all_goals (rw [← HL.out, ← HW3.out])
          all_goals (
            clear HL HW3 HO2 HP2 HG2 HB2 hcell c0 c2 lO p0 p1 lp x0 x1 lX hGc lG fG
            have c0 := KO.out.cell 0
            have c2 := KO.out.cell 2
            have lO := KO.out.lt
            go_wp2
            refine wp_region_still_tail 9 (by kernel_rfl) (by kernel_rfl) ?_
            show wpStill _ _ (World.drew W3.drew) _ _ _
            obtain ⟨V, hV⟩ : ∃ V, V = World.drew W3.drew := ⟨_, rfl⟩
            have HV := Lib.hid hV
            rw [← hV]
            have KOV := KO.out.below (Below.refl _ W3.drew).drew KO.out.lt
            rw [← hV] at KOV
            have KPV := KP.out.below (Below.refl _ W3.drew).drew KP.out.lt
            rw [← hV] at KPV
            have v0 := KOV.cell 0
            have v1 := KPV.cell 0
            have vl0 := KOV.lt
            have vl1 := KPV.lt
            have vf := KOV.frozen 0
            have HZV := Lib.hid (KZ.out V hV)
            clear hV KOV KPV KO KP KZ
            simp only [List.take_succ_cons, List.take_zero, List.drop_succ_cons, List.drop_zero]
            repeat still_step
            refine wpStill_nil ?_
            show wpList _ _ _ _ _ (World.drew W3.drew)
            rw [← HV.out]
            clear HV
            go_wp2
            go_roundw
            case rel => exact ⟨j + 1, by go_num, by omega, HZV⟩
            case measure => simp [intOf]; omega)
    · obtain rfl : j = n := by omega
      have e : ts.take j = ts := List.take_of_length_le (by have := HN.out; omega)
      rw [e] at K
      obtain ⟨hB, ⟨hu, hO⟩ | ⟨hu, G, X, cap, cs, hO, hG, hc, hX, hGl, _⟩⟩ := K.out
      · have c2 := hO.cell 2
        have lO := hO.lt
        have HB := Lib.hid hB
        have HL : Hid (Leaf wr w.heap.size ts.flatten) := Lib.hid (by rw [hu]; exact hO)
        clear K hB hO hu
        go_wp2
        go_ret
        exact ⟨w.heap.size, rfl, HL.out, HB.out⟩
      · have c2 := hO.cell 2
        have lO := hO.lt
        have lG := hG.lt
        have g0 := (hG.cell 0).trans hc
        have HB := Lib.hid hB
        have HL := Lib.hid hX
        clear K hB hO hG hc hX hu
        go_wp2
        go_ret
        exact ⟨X, rfl, HL.out, HB.out⟩
end Go.Proofs.YtodnlcbnbkkanaaGreatDoor
end
