import Derived.Deep.LoopGhost
import Derived.IntWalk
import Derived.WalkMore
import Derived.Deep.OwnRows
import Derived.Deep.Cut
import Derived.Laws.EntriesVeiled
import Derived.Laws.AppendOwnNone
import Derived.RegionTactic
import Derived.BigRegion
import Derived.Deep.RegionLaw
import Derived.Lib.SliceRun
import Derived.Test.YtodnlcbnbkkanaaGreatDoorO1
import Derived.Test.YtodnlcbnbkkanaaGreatDoorO2
section
namespace Go.Proofs.YtodnlcbnbkkanaaGreatDoor
open Go Go.RowKit Go.Maps Go.WideMaps

theorem Tryz.info3 : (Tryz.prog.info? 3).map (fun i => (i.zero, i.size, i.bytes)) = some (some (.int .i64 0), 1, 8) := by kernel_rfl

def folB (n : Int) (f : FolM) : Bool := numB f.sort n && !(f.not == 0#256)
def followsB (g : GramM) : Bool := g.follow.all (folB g.sorts.length) && onceA (fun a b => a == b) [] (g.follow.map (·.sort))
theorem all_false {α : Type} (p : α → Bool) (l : List α) (i : Nat) (x : α) (hx : l[i]? = some x) (h : p x = false) : l.all p = false := by
  rw [List.all_eq_false]
  exact ⟨x, List.mem_of_getElem? hx, by rw [h]; simp⟩

set_option maxRecDepth 100000 in
set_option maxHeartbeats 2000000 in
theorem followsMay_any (g : GramM) (w : World) (hg : GIn w g) (hf : FitG g) : Calls Tryz.prog 96 #[gramV g] w fun e w' => e = .returned (.bool (followsB g)) ∧ Below w.heap.size w w' := by
  have HL := Lib.hid hg.follow
  have HF := Lib.hid hf.fol
  have hn := hf.fit.follow
  have HB0 : Hid (Below w.heap.size w (w.alloc (.cells (gramC g) 27))) := Lib.hid ((Below.refl _ _).alloc (Nat.le_refl _) _)
  have HK0 : Hid (Blk (w.alloc (.cells (gramC g) 27)) w.heap.size 27 (gramC g)) := Lib.hid (Blk.new w 27 (gramC g))
  have HN := fun x w' => Lib.hid (num_any x g.sorts.length w')
  obtain ⟨i0, hi, hz0, hz1, hz2⟩ := info_parts Tryz.info3
  clear hg hf
  unfold gramV
  obtain ⟨n, hln⟩ : ∃ n, n = g.follow.length := ⟨_, rfl⟩
  have HLn := Lib.hid hln
  rw [← hln] at hn
  clear hln
  unfold gramC at *
  rw [← HLn.out] at HB0 HK0 ⊢
  go_enter Tryz.func96, Tryz.ntmps96
  go_wp2
  go_loopw [3, 9] (fun v i wr => ∃ (k : Nat), i = .int .i64 k ∧ k ≤ n ∧ Hid (∀ f, f ∈ g.follow.take k → folB g.sorts.length f = true) ∧ Hid (wr.ownsRow (w.heap.size + 1) 3 1 v k (cellsL intC ((g.follow.take k).map (·.sort))))
      ∧ Hid (Blk wr w.heap.size 27 #[.slice g.sa g.sorts.length g.sc, .slice g.pa g.prods.length g.pc, .int .i64 g.start, .slice g.fa g.forbid.length g.fc, .slice g.wa n g.wc]) ∧ Hid (Below w.heap.size w wr))
    (fun _ i _ => n - (intOf i).toNat)
  case atStart => exact ⟨0, rfl, Nat.zero_le _, Lib.hid (fun f h => by simp at h), Lib.hid (World.ownsRow_nil _ _ _ _), HK0, HB0⟩
  case round =>
    clear HB0 HK0
    obtain ⟨k, rfl, hk, hA, hO, hK, hB⟩ := hrel
    obtain ⟨g0, _, _, _, _⟩ : _ ∧ _ ∧ _ ∧ _ ∧ _ := ⟨hK.out.cell 0, hK.out.cell 1, hK.out.cell 2, hK.out.cell 3, hK.out.cell 4⟩
    simp only [List.getElem?_toArray, List.getElem?_cons_zero] at g0
    have hlK := hK.out.lt
    by_cases hlt : k < n
    · obtain ⟨f, hf⟩ : ∃ f, g.follow[k]? = some f := ⟨_, List.getElem?_eq_getElem (by rw [← HLn.out]; exact hlt)⟩
      have HX := Lib.hid hf
      have HT := Lib.hid (take_snoc g.follow k f hf)
      obtain ⟨b, off, hwa, hbw, hc, _⟩ := HL.out k f hf
      rw [hwa] at hK ⊢
      have hc := hc.below hB.out hbw
      have hbr := Nat.lt_of_lt_of_le hbw hB.out.size
      obtain ⟨c0, c1, c2, c3, c4⟩ := Fol_at hc
      have n1 : (k : Int) < (n : Int) := by omega
      have HFB : Hid (folB g.sorts.length f = (numB f.sort g.sorts.length && !(f.not == 0#256))) := Lib.hid rfl
      have HNf := fun w' => Lib.hid ((HN f.sort w').out)
      have HE := fun w' => Lib.hid (eq_zero f.not w')
      obtain ⟨fs, fnot⟩ := f
      dsimp only at *
      clear hc hf
      generalize (fnot == 0#256) = r2 at *
      generalize numB fs g.sorts.length = r1 at *
      have hszr := hB.out.size
      cases r1 with
      | false =>
        have HR : Hid (followsB g = false) := Lib.hid (by unfold followsB; rw [all_false _ _ k _ HX.out HFB.out]; rfl)
        clear HFB HE HN
        go_wp2_with (go_at_call 90; (with_reducible refine (HNf _).out.mono ?_); rintro e w3 ⟨rfl, rfl⟩)
        go_ret
        exact ⟨by rw [HR.out]; try rfl, hB.out.alloc hszr _⟩
      | true =>
        cases r2 with
        | true =>
          have HR : Hid (followsB g = false) := Lib.hid (by unfold followsB; rw [all_false _ _ k _ HX.out HFB.out]; rfl)
          have HE' := fun w' => (HE w').out
          clear HFB HN
          go_wp2_with (go_at_call 90; (with_reducible refine (HNf _).out.mono ?_); rintro e w3 ⟨rfl, rfl⟩)
          go_ret
          exact ⟨by rw [HR.out]; try rfl, hB.out.alloc hszr _⟩
        | false =>
          have HE' := fun w' => (HE w').out
          have hA2 : Hid (∀ f, f ∈ g.follow.take (k + 1) → folB g.sorts.length f = true) := Lib.hid (fun f hf => by
            rw [HT.out] at hf
            rcases List.mem_append.1 hf with h | h
            · exact hA.out f h
            · simp at h; subst h; exact HFB.out)
          have hO1 := Lib.hid ((hO.out.alloc (.cells #[.int .i64 fs, .int .u64 (wdI fnot 0), .int .u64 (wdI fnot 1), .int .u64 (wdI fnot 2), .int .u64 (wdI fnot 3)] 87)).alloc (.cells #[.int .i64 fs] 48))
          have HCN := cells_new (wr.alloc (.cells #[.int .i64 fs, .int .u64 (wdI fnot 0), .int .u64 (wdI fnot 1), .int .u64 (wdI fnot 2), .int .u64 (wdI fnot 3)] 87)) #[.int .i64 fs] 3
          rw [World.size_alloc] at HCN
          have HCN := Lib.hid HCN
          have hsum : k + 1 ≤ 1048576 := by omega
          have hw1 : w.heap.size + 1 ≤ wr.heap.size := hlK
          clear HFB HN HE
          go_wp2_with (first
            | (go_at_call 90; (with_reducible refine (HNf _).out.mono ?_); rintro e w3 ⟨rfl, rfl⟩)
            | (at_builtin; refine wpList_append_own _ rfl (.tmp 26) (.tmp 29) 48 rfl (w.heap.size + 1) 3 i0 (.int .i64 0) 1 8 Tryz.underlying48 hi hz0 hz1 hz2 rfl (by decide) _ _ _ rfl ((hO.out.alloc _).alloc _) ⟨wr.heap.size + 1, 0, none⟩ 1 1 [.int .i64 fs] rfl rfl HCN.out (by simp [Value.oneCell']) (by unfold maxLen; omega) (by omega) (by simp; omega) ?_; intro v5 w5 hown5 hgrow5 _))
          have hf5 := own_fin ((hO.out.alloc _).alloc _) (((Below.refl (w.heap.size + 1) wr).alloc hw1 _).alloc (by simp; omega) _) hw1 hgrow5
          have hO5 : Hid (w5.ownsRow (w.heap.size + 1) 3 1 v5 (k + 1) (cellsL intC ((g.follow.take (k + 1)).map (·.sort)))) := Lib.hid (by
            rw [HT.out, List.map_append, List.map_cons, List.map_nil, cellsL_snoc]; exact hown5)
          have hK5 := Lib.hid (hK.out.below hf5 (Nat.lt_succ_self _))
          have hB5 := Lib.hid (hB.out.trans (hf5.mono (Nat.le_succ _)))
          clear hf5 hown5 hgrow5 hO hK hB hA g0 c0 c1 c2 c3 c4
          rw [← hwa] at *
          go_wp2
          go_roundw
          case rel => exact ⟨k + 1, by go_num, by omega, hA2, hO5, hK5, hB5⟩
          case measure => simp [intOf]; omega
    · obtain rfl : k = n := by omega
      have HTk : g.follow.take k = g.follow := List.take_of_length_le (by rw [← HLn.out]; exact Nat.le_refl _)
      have hA2 := hA.out
      rw [HTk] at hA2
      have hO2 := hO.out
      rw [HTk] at hO2
      have hall : g.follow.all (folB g.sorts.length) = true := List.all_eq_true.2 hA2
      have hlen : k = (g.follow.map (·.sort)).length := by rw [List.length_map]; exact HLn.out
      have hI : ∀ x, x ∈ g.follow.map (·.sort) → I64 x := fun x hx => by
        obtain ⟨f, hf, rfl⟩ := List.mem_map.1 hx
        exact HF.out f hf
      have HR : Hid (followsB g = onceA (fun a b => a == b) [] (g.follow.map (·.sort))) := Lib.hid (by unfold followsB; rw [hall, Bool.true_and])
      obtain ⟨L, hL⟩ : ∃ L, L = g.follow.map (·.sort) := ⟨_, rfl⟩
      rw [← hL] at hlen hI HR hO2
      rw [hlen] at hO2
      obtain ⟨va, vc, rfl, hrow⟩ := own_row (cs := intC) (G := NoG) (fun _ => rfl) hO2 (fun _ _ => trivial)
      have HO := Lib.hid (onceInt_any va vc L wr hrow (by rw [← hlen]; omega) hI)
      clear hA hA2 hO hO2 hall HTk hrow hL hI
      generalize onceA (fun a b : Int => a == b) [] L = r at *
      clear hlen
      go_wp2_with fail
      with_reducible refine HO.out.mono ?_
      rintro e w3 ⟨rfl, hB3⟩
      have HB3 := Lib.hid (hB.out.trans (hB3.mono hB.out.size))
      clear hB3
      go_wp2
      go_ret
      exact ⟨by rw [HR.out]; try rfl, HB3.out⟩
end Go.Proofs.YtodnlcbnbkkanaaGreatDoor
end
section
namespace Go.Proofs.YtodnlcbnbkkanaaGreatDoor
open Go Go.RowKit Go.Maps Go.WideMaps
end Go.Proofs.YtodnlcbnbkkanaaGreatDoor
end
section
namespace Go.Proofs.YtodnlcbnbkkanaaGreatDoor
open Go Go.RowKit

theorem conditions_any (w : World) : Calls Tryz.prog 66 #[] w fun e w' => e = .returned (.slice (some ⟨w.heap.size, 0, none⟩) 5 5) ∧ w' = w.alloc (.cells #[.func (.func 92) #[] #[], .func (.func 93) #[] #[], .func (.func 94) #[] #[], .func (.func 95) #[] #[], .func (.func 96) #[] #[]] 28) := by
  go_enter Tryz.func66, Tryz.ntmps66
  go_wp2
  go_ret
  exact ⟨rfl, rfl⟩

def condB (g : GramM) : Nat → Bool
  | 0 => sortsB' g
  | 1 => startB g
  | 2 => prodsB g
  | 3 => forbidsB g
  | _ => followsB g
def checkB (g : GramM) : Bool := sortsB' g && (startB g && (prodsB g && (forbidsB g && followsB g)))
def errI (b : Bool) : Int := if b then 0 else 160

theorem cond_any (g : GramM) (hf : FitG g) (i : Nat) (hi : i < 5) (w : World) (hg : GIn w g) : Calls Tryz.prog (92 + i) #[gramV g] w fun e w' => e = .returned (.bool (condB g i)) ∧ Below w.heap.size w w' := by
  have h : i = 0 ∨ i = 1 ∨ i = 2 ∨ i = 3 ∨ i = 4 := by omega
  rcases h with rfl | rfl | rfl | rfl | rfl
  · exact sortsMay_any g w hg hf.fit
  · exact startMay_any g w
  · exact prodsMay_any g w hg hf.fit
  · exact forbidsMay_any g w hg hf
  · exact followsMay_any g w hg hf

set_option maxRecDepth 100000 in
set_option maxHeartbeats 2000000 in
theorem check_any (g : GramM) (w : World) (hg : GIn w g) (hf : FitG g) : Calls Tryz.prog 38 #[gramV g] w fun e w' => e = .returned (.int .i64 (errI (checkB g))) ∧ Below w.heap.size w w' := by
  have HC := Lib.hid (fun i hi W (hW : Below w.heap.size w W) => cond_any g hf i hi W (hg.below hW))
  have HB0 : Hid (Below w.heap.size w ((w.alloc (.cells (gramC g) 27)).alloc (.cells #[.func (.func 92) #[] #[], .func (.func 93) #[] #[], .func (.func 94) #[] #[], .func (.func 95) #[] #[], .func (.func 96) #[] #[]] 28))) := Lib.hid (((Below.refl _ _).alloc (Nat.le_refl _) _).alloc (by simp) _)
  have HK0 : Hid (Blk ((w.alloc (.cells (gramC g) 27)).alloc (.cells #[.func (.func 92) #[] #[], .func (.func 93) #[] #[], .func (.func 94) #[] #[], .func (.func 95) #[] #[], .func (.func 96) #[] #[]] 28)) w.heap.size 27 (gramC g)) := Lib.hid ((Blk.new w 27 (gramC g)).alloc _)
  have HF0 : Hid (Blk ((w.alloc (.cells (gramC g) 27)).alloc (.cells #[.func (.func 92) #[] #[], .func (.func 93) #[] #[], .func (.func 94) #[] #[], .func (.func 95) #[] #[], .func (.func 96) #[] #[]] 28)) (w.heap.size + 1) 28 #[.func (.func 92) #[] #[], .func (.func 93) #[] #[], .func (.func 94) #[] #[], .func (.func 95) #[] #[], .func (.func 96) #[] #[]]) := Lib.hid (by
    have h := Blk.new (w.alloc (.cells (gramC g) 27)) 28 #[.func (.func 92) #[] #[], .func (.func 93) #[] #[], .func (.func 94) #[] #[], .func (.func 95) #[] #[], .func (.func 96) #[] #[]]
    rw [World.size_alloc] at h
    exact h)
  have HR : Hid (checkB g = (condB g 0 && (condB g 1 && (condB g 2 && (condB g 3 && condB g 4))))) := Lib.hid rfl
  clear hg hf
  unfold gramV at *
  generalize checkB g = q at *
  unfold gramC at *
  go_enter Tryz.func38, Tryz.ntmps38
  go_wp2_with (go_at_call 66; refine (conditions_any _).mono ?_; rintro e w' ⟨rfl, rfl⟩)
  go_loopw [7] (fun i wr => ∃ (k : Nat), i = .int .i64 k ∧ k ≤ 5 ∧ Hid (∀ j, j < k → condB g j = true)
      ∧ Hid (Blk wr w.heap.size 27 #[.slice g.sa g.sorts.length g.sc, .slice g.pa g.prods.length g.pc, .int .i64 g.start, .slice g.fa g.forbid.length g.fc, .slice g.wa g.follow.length g.wc])
      ∧ Hid (Blk wr (w.heap.size + 1) 28 #[.func (.func 92) #[] #[], .func (.func 93) #[] #[], .func (.func 94) #[] #[], .func (.func 95) #[] #[], .func (.func 96) #[] #[]]) ∧ Hid (Below w.heap.size w wr))
    (fun i _ => 5 - (intOf i).toNat)
  case atStart => exact ⟨0, rfl, Nat.zero_le _, Lib.hid (fun j hj => by omega), HK0, HF0, HB0⟩
  case round =>
    clear HB0 HK0 HF0
    obtain ⟨k, rfl, hk, hA, hK, hF, hB⟩ := hrel
    have hlK := hK.out.lt
    have hlF := hF.out.lt
    have g0 := hK.out.cell 0
    have g1 := hK.out.cell 1
    have g2 := hK.out.cell 2
    have g3 := hK.out.cell 3
    have g4 := hK.out.cell 4
    simp only [List.getElem?_toArray, List.getElem?_cons_zero, List.getElem?_cons_succ] at g0 g1 g2 g3 g4
    have hcase : k = 0 ∨ k = 1 ∨ k = 2 ∨ k = 3 ∨ k = 4 ∨ k = 5 := by omega
    have key : ∀ r, condB g k = r → (r = false → k < 5 → Hid (q = false)) ∧ (r = true → Hid (∀ j, j < k + 1 → condB g j = true)) := fun r hr => ⟨fun h h5 => Lib.hid (by
        rw [HR.out]
        have h0 : k = 0 ∨ k = 1 ∨ k = 2 ∨ k = 3 ∨ k = 4 := by omega
        rcases h0 with rfl | rfl | rfl | rfl | rfl <;> simp [hr, h]), fun h => Lib.hid (fun j hj => by
        by_cases e : j = k
        · subst e; rw [hr, h]
        · exact hA.out j (by omega))⟩
    have hcN : ∀ (i : Nat), i < 5 → ∀ r, r = condB g i → Hid (Calls Tryz.prog (92 + i) #[.agg #[.slice g.sa g.sorts.length g.sc, .slice g.pa g.prods.length g.pc, .int .i64 g.start, .slice g.fa g.forbid.length g.fc, .slice g.wa g.follow.length g.wc]] wr fun e w' => e = .returned (.bool r) ∧ Below wr.heap.size wr w') := fun i hi r hr => Lib.hid (by rw [hr]; exact HC.out i hi wr hB.out)
    rcases hcase with rfl | rfl | rfl | rfl | rfl | rfl
    · obtain ⟨r, hr⟩ : ∃ r, r = condB g 0 := ⟨_, rfl⟩
      obtain ⟨kf, kt⟩ := key r hr.symm
      have HCk : Hid (Calls Tryz.prog 92 #[.agg #[.slice g.sa g.sorts.length g.sc, .slice g.pa g.prods.length g.pc, .int .i64 g.start, .slice g.fa g.forbid.length g.fc, .slice g.wa g.follow.length g.wc]] wr fun e w' => e = .returned (.bool r) ∧ Below wr.heap.size wr w') := hcN 0 (by omega) r hr
      have f0 := hF.out.cell 0
      simp only [List.getElem?_toArray, List.getElem?_cons_zero, List.getElem?_cons_succ] at f0
      clear key hcN hr hA
      cases r with
      | true =>
        have hA2 := kt rfl
        clear kf kt
        go_wp2_with fail
        with_reducible refine HCk.out.mono ?_
        rintro e w3 ⟨rfl, hB3⟩
        have hK3 := Lib.hid (hK.out.below hB3 hK.out.lt)
        have hF3 := Lib.hid (hF.out.below hB3 hF.out.lt)
        have HB3 := Lib.hid (hB.out.trans (hB3.mono hB.out.size))
        clear hB3 g0 g1 g2 g3 g4 f0 hK hF hB
        go_wp2
        go_roundw
        case rel => exact ⟨1, by go_num, by omega, hA2, hK3, hF3, HB3⟩
        case measure => simp [intOf]
      | false =>
        have HR2 := kf rfl (by omega)
        clear kf kt
        go_wp2_with fail
        with_reducible refine HCk.out.mono ?_
        rintro e w3 ⟨rfl, hB3⟩
        have HB3 := Lib.hid (hB.out.trans (hB3.mono hB.out.size))
        clear hB3 g0 g1 g2 g3 g4 f0 hK hF hB
        go_wp2
        go_ret
        exact ⟨by rw [HR2.out]; try rfl, HB3.out⟩
    · obtain ⟨r, hr⟩ : ∃ r, r = condB g 1 := ⟨_, rfl⟩
      obtain ⟨kf, kt⟩ := key r hr.symm
      have HCk : Hid (Calls Tryz.prog 93 #[.agg #[.slice g.sa g.sorts.length g.sc, .slice g.pa g.prods.length g.pc, .int .i64 g.start, .slice g.fa g.forbid.length g.fc, .slice g.wa g.follow.length g.wc]] wr fun e w' => e = .returned (.bool r) ∧ Below wr.heap.size wr w') := hcN 1 (by omega) r hr
      have f0 := hF.out.cell 1
      simp only [List.getElem?_toArray, List.getElem?_cons_zero, List.getElem?_cons_succ] at f0
      clear key hcN hr hA
      cases r with
      | true =>
        have hA2 := kt rfl
        clear kf kt
        go_wp2_with fail
        with_reducible refine HCk.out.mono ?_
        rintro e w3 ⟨rfl, hB3⟩
        have hK3 := Lib.hid (hK.out.below hB3 hK.out.lt)
        have hF3 := Lib.hid (hF.out.below hB3 hF.out.lt)
        have HB3 := Lib.hid (hB.out.trans (hB3.mono hB.out.size))
        clear hB3 g0 g1 g2 g3 g4 f0 hK hF hB
        go_wp2
        go_roundw
        case rel => exact ⟨2, by go_num, by omega, hA2, hK3, hF3, HB3⟩
        case measure => simp [intOf]
      | false =>
        have HR2 := kf rfl (by omega)
        clear kf kt
        go_wp2_with fail
        with_reducible refine HCk.out.mono ?_
        rintro e w3 ⟨rfl, hB3⟩
        have HB3 := Lib.hid (hB.out.trans (hB3.mono hB.out.size))
        clear hB3 g0 g1 g2 g3 g4 f0 hK hF hB
        go_wp2
        go_ret
        exact ⟨by rw [HR2.out]; try rfl, HB3.out⟩
    · obtain ⟨r, hr⟩ : ∃ r, r = condB g 2 := ⟨_, rfl⟩
      obtain ⟨kf, kt⟩ := key r hr.symm
      have HCk : Hid (Calls Tryz.prog 94 #[.agg #[.slice g.sa g.sorts.length g.sc, .slice g.pa g.prods.length g.pc, .int .i64 g.start, .slice g.fa g.forbid.length g.fc, .slice g.wa g.follow.length g.wc]] wr fun e w' => e = .returned (.bool r) ∧ Below wr.heap.size wr w') := hcN 2 (by omega) r hr
      have f0 := hF.out.cell 2
      simp only [List.getElem?_toArray, List.getElem?_cons_zero, List.getElem?_cons_succ] at f0
      clear key hcN hr hA
      cases r with
      | true =>
        have hA2 := kt rfl
        clear kf kt
        go_wp2_with fail
        with_reducible refine HCk.out.mono ?_
        rintro e w3 ⟨rfl, hB3⟩
        have hK3 := Lib.hid (hK.out.below hB3 hK.out.lt)
        have hF3 := Lib.hid (hF.out.below hB3 hF.out.lt)
        have HB3 := Lib.hid (hB.out.trans (hB3.mono hB.out.size))
        clear hB3 g0 g1 g2 g3 g4 f0 hK hF hB
        go_wp2
        go_roundw
        case rel => exact ⟨3, by go_num, by omega, hA2, hK3, hF3, HB3⟩
        case measure => simp [intOf]
      | false =>
        have HR2 := kf rfl (by omega)
        clear kf kt
        go_wp2_with fail
        with_reducible refine HCk.out.mono ?_
        rintro e w3 ⟨rfl, hB3⟩
        have HB3 := Lib.hid (hB.out.trans (hB3.mono hB.out.size))
        clear hB3 g0 g1 g2 g3 g4 f0 hK hF hB
        go_wp2
        go_ret
        exact ⟨by rw [HR2.out]; try rfl, HB3.out⟩
    · obtain ⟨r, hr⟩ : ∃ r, r = condB g 3 := ⟨_, rfl⟩
      obtain ⟨kf, kt⟩ := key r hr.symm
      have HCk : Hid (Calls Tryz.prog 95 #[.agg #[.slice g.sa g.sorts.length g.sc, .slice g.pa g.prods.length g.pc, .int .i64 g.start, .slice g.fa g.forbid.length g.fc, .slice g.wa g.follow.length g.wc]] wr fun e w' => e = .returned (.bool r) ∧ Below wr.heap.size wr w') := hcN 3 (by omega) r hr
      have f0 := hF.out.cell 3
      simp only [List.getElem?_toArray, List.getElem?_cons_zero, List.getElem?_cons_succ] at f0
      clear key hcN hr hA
      cases r with
      | true =>
        have hA2 := kt rfl
        clear kf kt
        go_wp2_with fail
        with_reducible refine HCk.out.mono ?_
        rintro e w3 ⟨rfl, hB3⟩
        have hK3 := Lib.hid (hK.out.below hB3 hK.out.lt)
        have hF3 := Lib.hid (hF.out.below hB3 hF.out.lt)
        have HB3 := Lib.hid (hB.out.trans (hB3.mono hB.out.size))
        clear hB3 g0 g1 g2 g3 g4 f0 hK hF hB
        go_wp2
        go_roundw
        case rel => exact ⟨4, by go_num, by omega, hA2, hK3, hF3, HB3⟩
        case measure => simp [intOf]
      | false =>
        have HR2 := kf rfl (by omega)
        clear kf kt
        go_wp2_with fail
        with_reducible refine HCk.out.mono ?_
        rintro e w3 ⟨rfl, hB3⟩
        have HB3 := Lib.hid (hB.out.trans (hB3.mono hB.out.size))
        clear hB3 g0 g1 g2 g3 g4 f0 hK hF hB
        go_wp2
        go_ret
        exact ⟨by rw [HR2.out]; try rfl, HB3.out⟩
    · obtain ⟨r, hr⟩ : ∃ r, r = condB g 4 := ⟨_, rfl⟩
      obtain ⟨kf, kt⟩ := key r hr.symm
      have HCk : Hid (Calls Tryz.prog 96 #[.agg #[.slice g.sa g.sorts.length g.sc, .slice g.pa g.prods.length g.pc, .int .i64 g.start, .slice g.fa g.forbid.length g.fc, .slice g.wa g.follow.length g.wc]] wr fun e w' => e = .returned (.bool r) ∧ Below wr.heap.size wr w') := hcN 4 (by omega) r hr
      have f0 := hF.out.cell 4
      simp only [List.getElem?_toArray, List.getElem?_cons_zero, List.getElem?_cons_succ] at f0
      clear key hcN hr hA
      cases r with
      | true =>
        have hA2 := kt rfl
        clear kf kt
        go_wp2_with fail
        with_reducible refine HCk.out.mono ?_
        rintro e w3 ⟨rfl, hB3⟩
        have hK3 := Lib.hid (hK.out.below hB3 hK.out.lt)
        have hF3 := Lib.hid (hF.out.below hB3 hF.out.lt)
        have HB3 := Lib.hid (hB.out.trans (hB3.mono hB.out.size))
        clear hB3 g0 g1 g2 g3 g4 f0 hK hF hB
        go_wp2
        go_roundw
        case rel => exact ⟨5, by go_num, by omega, hA2, hK3, hF3, HB3⟩
        case measure => simp [intOf]
      | false =>
        have HR2 := kf rfl (by omega)
        clear kf kt
        go_wp2_with fail
        with_reducible refine HCk.out.mono ?_
        rintro e w3 ⟨rfl, hB3⟩
        have HB3 := Lib.hid (hB.out.trans (hB3.mono hB.out.size))
        clear hB3 g0 g1 g2 g3 g4 f0 hK hF hB
        go_wp2
        go_ret
        exact ⟨by rw [HR2.out]; try rfl, HB3.out⟩
    · have HR2 : Hid (q = true) := Lib.hid (by rw [HR.out, hA.out 0 (by omega), hA.out 1 (by omega), hA.out 2 (by omega), hA.out 3 (by omega), hA.out 4 (by omega)]; rfl)
      clear key hA hcN
      go_wp2
      go_ret
      exact ⟨by rw [HR2.out]; try rfl, hB.out⟩
end Go.Proofs.YtodnlcbnbkkanaaGreatDoor
end
section
namespace Go.Proofs.YtodnlcbnbkkanaaGreatDoor
open Go Go.RowKit

structure MayB (g : GramM) : Prop where
  sorts1 : 1 ≤ g.sorts.length
  sorts2 : g.sorts.length ≤ 1000
  prods : g.prods.length ≤ 1000
  left : ∀ x, x ∈ g.prods → ∃ k : Nat, x.left = k ∧ k < g.sorts.length
  right : ∀ x, x ∈ g.prods → x.right.length ≤ 30
  kind : ∀ x, x ∈ g.prods → ∀ s, s ∈ x.right → s.kind = 0 ∨ s.kind = 1
  sym : ∀ x, x ∈ g.prods → ∀ s, s ∈ x.right → s.kind = 1 → ∃ k : Nat, s.sort = k ∧ k < g.sorts.length
  start : ∃ k : Nat, g.start = k ∧ k < g.sorts.length
  forb : ∀ f, f ∈ g.forbid → (∃ k : Nat, f.parent = k ∧ k < g.prods.length) ∧ (∃ k : Nat, f.child = k ∧ k < g.prods.length)
  fol : ∀ f, f ∈ g.follow → ∃ k : Nat, f.sort = k ∧ k < g.sorts.length
theorem mayB_of {g : GramM} (h : checkB g = true) : MayB g := by
  unfold checkB sortsB' startB prodsB forbidsB followsB at h
  simp only [Bool.and_eq_true, decide_eq_true_eq, List.all_eq_true] at h
  obtain ⟨⟨h1, h2, h3, h4⟩, h5, ⟨h6, h7⟩, ⟨h8, h9⟩, h10, h11⟩ := h
  have hp : ∀ x, x ∈ g.prods → numB x.left g.sorts.length = true ∧ x.right.length ≤ 30 ∧ ∀ s, s ∈ x.right → symB g.sorts.length s = true := fun x hx => by
    have := h7 x hx
    unfold prodB at this
    simp only [Bool.and_eq_true, decide_eq_true_eq, List.all_eq_true] at this
    exact ⟨this.1, this.2.1, this.2.2.1⟩
  refine ⟨h1, h2, h6, fun x hx => numB_nat (hp x hx).1, fun x hx => (hp x hx).2.1, fun x hx s hs => ?_, fun x hx s hs hk => ?_, numB_nat h5, fun f hf => ?_, fun f hf => ?_⟩
  · have := (hp x hx).2.2 s hs
    unfold symB at this
    by_cases e : s.kind = 0
    · exact .inl e
    · rw [if_neg e] at this
      by_cases e1 : s.kind = 1
      · exact .inr e1
      · rw [if_neg e1] at this; cases this
  · have := (hp x hx).2.2 s hs
    unfold symB at this
    rw [if_neg (by rw [hk]; decide), if_pos hk, Bool.and_eq_true] at this
    exact numB_nat this.2
  · have := h9 f hf
    unfold forbidB at this
    simp only [Bool.and_eq_true] at this
    exact ⟨numB_nat this.1, numB_nat this.2.1⟩
  · have := h10 f hf
    unfold folB at this
    simp only [Bool.and_eq_true] at this
    exact numB_nat this.1

inductive PV (g : GramM) : Nat → Prop
  | mk (x : ProdM) (hx : x ∈ g.prods) (hr : x.role ≠ 11) (h : ∀ s, s ∈ x.right → s.kind = 1 → PV g s.sort.toNat) : PV g x.left.toNat

def lv (L : List Bool) (i : Int) : Bool := L.getD i.toNat false
def okP (L : List Bool) (x : ProdM) : Bool := !(x.role == 11) && sortsB (lv L) x
def Sound (g : GramM) (L : List Bool) : Prop := ∀ k : Nat, L[k]? = some true → PV g k
def Closed (g : GramM) (L : List Bool) : Prop := ∀ x, x ∈ g.prods → okP L x = true → lv L x.left = true
theorem lv_true {L : List Bool} {i : Int} (h : lv L i = true) : L[i.toNat]? = some true := by
  unfold lv at h
  rw [List.getD_eq_getElem?_getD] at h
  cases e : L[i.toNat]? with
  | none => rw [e] at h; cases h
  | some b => rw [e] at h; simp at h; rw [h]
theorem lv_some {L : List Bool} {i : Int} (h : L[i.toNat]? = some true) : lv L i = true := by
  unfold lv
  rw [List.getD_eq_getElem?_getD, h]; rfl
theorem okP_pv {g : GramM} {L : List Bool} (hS : Sound g L) {x : ProdM} (hx : x ∈ g.prods) (h : okP L x = true) : PV g x.left.toNat := by
  unfold okP sortsB at h
  rw [Bool.and_eq_true, List.all_eq_true] at h
  refine PV.mk x hx (fun e => by rw [e] at h; simp at h) (fun s hs hk => ?_)
  have := h.2 s hs
  unfold sortB at this
  rw [hk] at this
  simp at this
  exact hS _ (lv_true this)
theorem sound_set {g : GramM} {L : List Bool} (hS : Sound g L) {x : ProdM} (hx : x ∈ g.prods) (h : okP L x = true) : Sound g (L.set x.left.toNat true) := by
  intro k hk
  rw [List.getElem?_set] at hk
  split at hk
  · next e => subst e; exact okP_pv hS hx h
  · exact hS k hk
theorem closed_pv {g : GramM} {L : List Bool} (hC : Closed g L) {k : Nat} (h : PV g k) : L[k]? = some true := by
  induction h with
  | mk x hx hr _ ih =>
    refine lv_true (hC x hx ?_)
    unfold okP sortsB
    rw [Bool.and_eq_true, List.all_eq_true]
    refine ⟨by simpa using hr, fun s hs => ?_⟩
    unfold sortB
    by_cases e : s.kind = 1
    · rw [lv_some (ih s hs e)]; simp
    · have : (s.kind == 1) = false := by simpa using e
      rw [this]; rfl
def Live (g : GramM) (L : List Bool) : Prop := L.length = g.sorts.length ∧ ∀ k : Nat, L[k]? = some true ↔ PV g k
theorem live_of {g : GramM} {L : List Bool} (hl : L.length = g.sorts.length) (hS : Sound g L) (hC : Closed g L) : Live g L := ⟨hl, fun k => ⟨hS k, closed_pv hC⟩⟩
theorem Live.unique {g : GramM} {L L' : List Bool} (h : Live g L) (h' : Live g L') : L = L' := by
  apply List.ext_getElem?
  intro k
  by_cases hk : k < g.sorts.length
  · have e1 : L[k]? = some (L[k]'(by rw [h.1]; exact hk)) := List.getElem?_eq_getElem _
    have e2 : L'[k]? = some (L'[k]'(by rw [h'.1]; exact hk)) := List.getElem?_eq_getElem _
    rw [e1, e2]
    have a := h.2 k
    have b := h'.2 k
    rw [e1] at a
    rw [e2] at b
    simp only [Option.some.injEq] at a b ⊢
    rw [Bool.eq_iff_iff]
    exact a.trans b.symm
  · rw [List.getElem?_eq_none (by rw [h.1]; omega), List.getElem?_eq_none (by rw [h'.1]; omega)]

def bools (L : List Bool) : Array Value := (L.map Value.bool).toArray
theorem bools_at (L : List Bool) (i : Nat) (h : i < L.length) : (bools L)[i]? = some (.bool (lv L i)) := by
  unfold bools lv
  simp [List.getElem?_eq_getElem h, List.getD_eq_getElem?_getD]
theorem bools_set (L : List Bool) (i : Nat) : (bools L).setIfInBounds i (.bool true) = bools (L.set i true) := by
  unfold bools
  rw [List.setIfInBounds_toArray, List.map_set]
theorem bools_made (n : Nat) : madeCells #[.bool false] n = bools (List.replicate n false) := by
  unfold bools madeCells
  apply Array.ext'
  simp [Nat.mod_one, List.map_const']
theorem count_set {L : List Bool} {i : Nat} (h : L[i]? = some false) : (L.set i true).count false < L.count false := by
  induction L generalizing i with
  | nil => simp at h
  | cons b r ih =>
    cases i with
    | zero => simp at h; subst h; simp
    | succ i => simp at h; simp only [List.set_cons_succ, List.count_cons]; have := ih h; omega
end Go.Proofs.YtodnlcbnbkkanaaGreatDoor
end
section
namespace Go.Proofs.YtodnlcbnbkkanaaGreatDoor
open Go Go.RowKit

def SymT (T : Nat → List UInt8 → Prop) (s : SymM) (t : List UInt8) : Prop := (s.kind = 1 ∧ T s.sort.toNat t) ∨ (s.kind ≠ 1 ∧ ∃ b : UInt8, t = [b] ∧ s.set.getLsbD b.toNat = true)
def TXs (T : Nat → List UInt8 → Prop) : List SymM → List UInt8 → Prop
  | [], t => t = []
  | s :: r, t => ∃ a b, t = a ++ b ∧ SymT T s a ∧ TXs T r b
theorem SymT.imp {T U : Nat → List UInt8 → Prop} {s : SymM} {t : List UInt8} (h : SymT T s t) (hi : s.kind = 1 → ∀ t, T s.sort.toNat t → U s.sort.toNat t) : SymT U s t := by
  rcases h with ⟨h, k⟩ | h
  · exact .inl ⟨h, hi h _ k⟩
  · exact .inr h
theorem TXs.imp {T U : Nat → List UInt8 → Prop} : ∀ {l : List SymM} {t : List UInt8}, TXs T l t → (∀ s, s ∈ l → s.kind = 1 → ∀ t, T s.sort.toNat t → U s.sort.toNat t) → TXs U l t := by
  intro l
  induction l with
  | nil => intro t h _; exact h
  | cons s r ih =>
    rintro t ⟨a, b, rfl, h1, h2⟩ hi
    exact ⟨a, b, rfl, h1.imp (hi s (by simp)), ih h2 fun x hx => hi x (by simp [hx])⟩
theorem TXs.append {T : Nat → List UInt8 → Prop} : ∀ {l m : List SymM} {a b : List UInt8}, TXs T l a → TXs T m b → TXs T (l ++ m) (a ++ b) := by
  intro l
  induction l with
  | nil => intro m a b h k; cases h; exact k
  | cons s r ih =>
    rintro m a b ⟨c, d, rfl, h1, h2⟩ k
    exact ⟨c, d ++ b, by simp, h1, ih h2 k⟩
abbrev treeP (x : ProdM) : Prop := x.role ≠ 11
def TXd (g : GramM) : Nat → Nat → List UInt8 → Prop
  | 0, _, _ => False
  | d + 1, k, t => ∃ x, x ∈ g.prods ∧ treeP x ∧ x.left.toNat = k ∧ TXs (TXd g d) x.right t
def TX (g : GramM) (k : Nat) (t : List UInt8) : Prop := ∃ d, TXd g d k t
theorem TXd.succ {g : GramM} : ∀ {d k : Nat} {t : List UInt8}, TXd g d k t → TXd g (d + 1) k t := by
  intro d
  induction d with
  | zero => intro k t h; exact h.elim
  | succ d ih =>
    rintro k t ⟨x, hx, hr, hl, h⟩
    exact ⟨x, hx, hr, hl, h.imp fun s _ _ t => ih⟩
theorem TXd.mono {g : GramM} {d e k : Nat} {t : List UInt8} (h : TXd g d k t) (hd : d ≤ e) : TXd g e k t := by
  induction hd with
  | refl => exact h
  | step _ ih => exact ih.succ
theorem TXs.level {g : GramM} : ∀ {l : List SymM} {t : List UInt8}, TXs (TX g) l t → ∃ d, TXs (TXd g d) l t := by
  intro l
  induction l with
  | nil => intro t h; exact ⟨0, h⟩
  | cons s r ih =>
    rintro t ⟨a, b, rfl, h1, h2⟩
    obtain ⟨d, h2⟩ := ih h2
    rcases h1 with ⟨hk, e, h1⟩ | h1
    · exact ⟨max d e, a, b, rfl, .inl ⟨hk, h1.mono (Nat.le_max_right _ _)⟩, h2.imp fun _ _ _ _ h => h.mono (Nat.le_max_left _ _)⟩
    · exact ⟨d, a, b, rfl, .inr h1, h2⟩
theorem TX.mk {g : GramM} {x : ProdM} {t : List UInt8} (hx : x ∈ g.prods) (hr : treeP x) (h : TXs (TX g) x.right t) : TX g x.left.toNat t := by
  obtain ⟨d, h⟩ := h.level
  exact ⟨d + 1, x, hx, hr, rfl, h⟩
theorem TX.ind {g : GramM} {P : Nat → List UInt8 → Prop} (hP : ∀ (x : ProdM) (t : List UInt8), x ∈ g.prods → treeP x → TXs (TX g) x.right t → TXs P x.right t → P x.left.toNat t) {k : Nat} {t : List UInt8} (h : TX g k t) : P k t := by
  obtain ⟨d, h⟩ := h
  induction d generalizing k t with
  | zero => exact h.elim
  | succ d ih =>
    obtain ⟨x, hx, hr, rfl, h⟩ := h
    exact hP x t hx hr (h.imp fun _ _ _ _ h => ⟨d, h⟩) (h.imp fun _ _ _ _ h => ih h)
theorem TX.out {g : GramM} {k : Nat} {t : List UInt8} (h : TX g k t) : ∃ x, x ∈ g.prods ∧ treeP x ∧ x.left.toNat = k ∧ TXs (TX g) x.right t := by
  obtain ⟨d, h⟩ := h
  cases d with
  | zero => exact h.elim
  | succ d => obtain ⟨x, hx, hr, hl, h⟩ := h; exact ⟨x, hx, hr, hl, h.imp fun _ _ _ _ h => ⟨d, h⟩⟩

structure MaySet (g : GramM) : Prop where
  set : ∀ x, x ∈ g.prods → ∀ s, s ∈ x.right → s.kind ≠ 1 → s.kind = 0 ∧ s.set ≠ 0#256
  role : ∀ x, x ∈ g.prods → x.role = 11 → ∀ s, s ∈ x.right → s.kind ≠ 1 ∨ True
theorem bv_bit {s : BS} (h : s ≠ 0#256) : ∃ b : UInt8, s.getLsbD b.toNat = true := by
  apply Classical.byContradiction
  intro hn
  refine h (BitVec.eq_of_getLsbD_eq fun i hi => ?_)
  rw [BitVec.getLsbD_zero]
  cases c : s.getLsbD i with
  | false => rfl
  | true =>
    refine absurd ⟨UInt8.ofNat i, ?_⟩ hn
    rw [UInt8.toNat_ofNat', Nat.mod_eq_of_lt (by omega)]
    exact c
theorem maySet_of {g : GramM} (h : checkB g = true) : MaySet g := by
  unfold checkB prodsB at h
  simp only [Bool.and_eq_true, decide_eq_true_eq, List.all_eq_true] at h
  obtain ⟨_, _, ⟨_, h7⟩, _⟩ := h
  refine ⟨fun x hx s hs hk => ?_, fun _ _ _ _ _ => .inr trivial⟩
  have := h7 x hx
  unfold prodB at this
  simp only [Bool.and_eq_true, decide_eq_true_eq, List.all_eq_true] at this
  have := this.2.2.1 s hs
  unfold symB at this
  by_cases e : s.kind = 0
  · rw [if_pos e, Bool.and_eq_true] at this
    exact ⟨e, fun h0 => by rw [h0] at this; simp at this⟩
  · rw [if_neg e, if_neg hk] at this; cases this
theorem txs_of {T : Nat → List UInt8 → Prop} : ∀ {l : List SymM}, (∀ s, s ∈ l → ∃ t, SymT T s t) → ∃ t, TXs T l t := by
  intro l
  induction l with
  | nil => intro _; exact ⟨[], rfl⟩
  | cons s r ih =>
    intro h
    obtain ⟨a, ha⟩ := h s (by simp)
    obtain ⟨b, hb⟩ := ih fun x hx => h x (by simp [hx])
    exact ⟨a ++ b, a, b, rfl, ha, hb⟩
theorem pv_iff {g : GramM} (hs : MaySet g) {k : Nat} : PV g k ↔ ∃ t, TX g k t := by
  constructor
  · intro h
    induction h with
    | mk x hx hr _ ih =>
      obtain ⟨t, ht⟩ : ∃ t, TXs (TX g) x.right t := txs_of fun s hsx => by
        by_cases hk : s.kind = 1
        · obtain ⟨t, ht⟩ := ih s hsx hk
          exact ⟨t, .inl ⟨hk, ht⟩⟩
        · obtain ⟨b, hb⟩ := bv_bit (hs.set x hx s hsx hk).2
          exact ⟨[b], .inr ⟨hk, b, rfl, hb⟩⟩
      exact ⟨t, TX.mk hx hr ht⟩
  · rintro ⟨t, ht⟩
    refine TX.ind (P := fun k _ => PV g k) (fun x t hx hr _ h => PV.mk x hx hr fun s hsx hk => ?_) ht
    have : ∀ (l : List SymM) (t : List UInt8), TXs (fun k _ => PV g k) l t → ∀ s, s ∈ l → s.kind = 1 → PV g s.sort.toNat := by
      intro l
      induction l with
      | nil => intro t _ s hs; cases hs
      | cons y r ih =>
        rintro t ⟨a, b, _, h1, h2⟩ s hs hk
        rcases List.mem_cons.1 hs with rfl | hs
        · rcases h1 with ⟨_, h1⟩ | ⟨h1, _⟩
          · exact h1
          · exact absurd hk h1
        · exact ih b h2 s hs hk
    exact this _ _ h s hsx hk

def capL : Nat := 1048577
def gi (S : List Int) (i : Int) : Int := S.getD i.toNat (-1)
def symN (S : List Int) (s : SymM) : Int := if s.kind = 1 then gi S s.sort else 1
def sumA (S : List Int) : List SymM → Int → Int
  | [], n => n
  | s :: r, n => if symN S s < 0 then -1 else sumA S r (min (n + symN S s) 1048577)
theorem sumA_cons (S : List Int) (s : SymM) (r : List SymM) (n : Int) : sumA S (s :: r) n = if symN S s < 0 then -1 else sumA S r (min (n + symN S s) 1048577) := rfl
theorem sumA_snoc (S : List Int) (s : SymM) : ∀ (l : List SymM) (n : Int), 0 ≤ n → sumA S (l ++ [s]) n = if sumA S l n < 0 then -1 else if symN S s < 0 then -1 else min (sumA S l n + symN S s) 1048577 := by
  intro l
  induction l with
  | nil =>
    intro n hn
    show (if symN S s < 0 then -1 else min (n + symN S s) 1048577) = if n < 0 then -1 else if symN S s < 0 then -1 else min (n + symN S s) 1048577
    exact (if_neg (by omega : ¬ n < 0)).symm
  | cons x r ih =>
    intro n hn
    by_cases h : symN S x < 0
    · have e : sumA S (x :: r) n = -1 := if_pos h
      have e2 : sumA S (x :: r ++ [s]) n = -1 := if_pos h
      rw [e2, if_pos (by rw [e]; decide)]
    · have e : sumA S (x :: r) n = sumA S r (min (n + symN S x) 1048577) := if_neg h
      have e2 : sumA S (x :: r ++ [s]) n = sumA S (r ++ [s]) (min (n + symN S x) 1048577) := if_neg h
      rw [e2, ih _ (by omega)]
      simp only [e]
theorem sumA_range (S : List Int) : ∀ (l : List SymM) (n : Int), 0 ≤ n → n ≤ 1048577 → -1 ≤ sumA S l n ∧ sumA S l n ≤ 1048577 := by
  intro l
  induction l with
  | nil => intro n h1 h2; simp only [sumA]; omega
  | cons s r ih =>
    intro n h1 h2
    simp only [sumA]
    split
    · omega
    · exact ih _ (by omega) (by omega)
theorem sumA_low (S : List Int) : ∀ (l : List SymM) (n : Int), 0 ≤ n → n ≤ 1048577 → 0 ≤ sumA S l n → n ≤ sumA S l n := by
  intro l
  induction l with
  | nil => intro n h1 h2 _; simp only [sumA]; omega
  | cons s r ih =>
    intro n h1 h2 h3
    simp only [sumA] at h3 ⊢
    split at h3
    · omega
    · rw [if_neg (by assumption)]
      have := ih _ (by omega) (by omega) h3
      omega
def ShortP (g : GramM) (S : List Int) : Prop := S.length = g.sorts.length ∧ ∀ (k : Nat) (n : Int), S[k]? = some n →
  (n = -1 ∧ ∀ t, ¬ TX g k t) ∨ ∃ t, TX g k t ∧ n = min (t.length : Int) 1048577 ∧ ∀ t', TX g k t' → n ≤ t'.length
theorem ShortP.unique {g : GramM} {S S' : List Int} (h : ShortP g S) (h' : ShortP g S') : S = S' := by
  refine List.ext_getElem (h.1.trans h'.1.symm) fun k h1 h2 => ?_
  have a := h.2 k _ (List.getElem?_eq_getElem h1)
  have b := h'.2 k _ (List.getElem?_eq_getElem h2)
  generalize S[k] = m at *
  generalize S'[k] = n at *
  rcases a with ⟨rfl, a⟩ | ⟨t, ht, hm, hl⟩
  · rcases b with ⟨rfl, _⟩ | ⟨t, ht, _⟩
    · rfl
    · exact absurd ht (a t)
  · rcases b with ⟨_, b⟩ | ⟨u, hu, hn, hlu⟩
    · exact absurd ht (b t)
    · have := hl u hu
      have := hlu t ht
      omega
def SoundN (g : GramM) (S : List Int) : Prop := ∀ (k : Nat) (n : Int), S[k]? = some n → n = -1 ∨ ∃ t, TX g k t ∧ n = min (t.length : Int) 1048577
def okN (S : List Int) (x : ProdM) : Prop := treeP x → 0 ≤ sumA S x.right 0 → 0 ≤ gi S x.left ∧ gi S x.left ≤ sumA S x.right 0
def ClosedN (g : GramM) (S : List Int) : Prop := ∀ x, x ∈ g.prods → okN S x
theorem gi_some {S : List Int} {i n : Int} (h : S[i.toNat]? = some n) : gi S i = n := by
  unfold gi; rw [List.getD_eq_getElem?_getD, h]; rfl
theorem gi_at {S : List Int} {i : Int} (h : 0 ≤ gi S i) : S[i.toNat]? = some (gi S i) := by
  unfold gi at *
  rw [List.getD_eq_getElem?_getD] at *
  cases e : S[i.toNat]? with
  | none => rw [e] at h; simp at h
  | some n => rfl
theorem SoundN.lo {g : GramM} {S : List Int} (h : SoundN g S) (i : Int) : -1 ≤ gi S i ∧ gi S i ≤ 1048577 := by
  unfold gi
  rw [List.getD_eq_getElem?_getD]
  cases e : S[i.toNat]? with
  | none => simp
  | some n =>
    simp only [Option.getD_some]
    rcases h _ _ e with rfl | ⟨t, _, rfl⟩ <;> omega
theorem sum_text {g : GramM} (hs : MaySet g) {S : List Int} (h : SoundN g S) : ∀ {l : List SymM} {n : Int}, (∀ s, s ∈ l → s.kind ≠ 1 → s.set ≠ 0#256) → 0 ≤ n → 0 ≤ sumA S l n → ∃ t, TXs (TX g) l t ∧ min (sumA S l n) 1048577 = min (n + t.length) 1048577 := by
  intro l
  induction l with
  | nil => intro n _ _ _; exact ⟨[], rfl, by simp [sumA]⟩
  | cons s r ih =>
    intro n he hn hp
    simp only [sumA] at hp ⊢
    split at hp
    · omega
    · next hk =>
      rw [if_neg hk]
      obtain ⟨b, hb1, hb2⟩ := ih (fun x hx => he x (by simp [hx])) (by omega) hp
      obtain ⟨a, ha1, ha2⟩ : ∃ a, SymT (TX g) s a ∧ symN S s = min (a.length : Int) 1048577 := by
        unfold symN at hk ⊢
        by_cases e : s.kind = 1
        · rw [if_pos e] at hk ⊢
          rcases h _ _ (gi_at (S := S) (i := s.sort) (by omega)) with e1 | ⟨t, ht, h1⟩
          · omega
          · exact ⟨t, .inl ⟨e, ht⟩, h1⟩
        · rw [if_neg e]
          obtain ⟨b, hb⟩ := bv_bit (he s (by simp) e)
          exact ⟨[b], .inr ⟨e, b, rfl, hb⟩, by simp; decide⟩
      refine ⟨a ++ b, ⟨a, b, rfl, ha1, hb1⟩, ?_⟩
      rw [hb2, List.length_append]
      omega
theorem SoundN.set {g : GramM} (hs : MaySet g) {S : List Int} (h : SoundN g S) {x : ProdM} (hx : x ∈ g.prods) (hr : treeP x) (hp : 0 ≤ sumA S x.right 0) : SoundN g (S.set x.left.toNat (sumA S x.right 0)) := by
  intro k n hk
  rw [List.getElem?_set] at hk
  split at hk
  · next e =>
    subst e
    split at hk
    · cases hk
      obtain ⟨t, h1, h2⟩ := sum_text hs h (fun s hsx hk => (hs.set x hx s hsx hk).2) (Int.le_refl 0) hp
      have := sumA_range S x.right 0 (by omega) (by omega)
      exact .inr ⟨t, TX.mk hx hr h1, by omega⟩
    · cases hk
  · exact h k n hk
theorem text_sum {S : List Int} : ∀ {l : List SymM} {t : List UInt8} {n : Int}, TXs (fun k t => 0 ≤ gi S k ∧ gi S k ≤ min (t.length : Int) 1048577) l t → (∀ s, s ∈ l → s.kind = 1 → 0 ≤ s.sort) → 0 ≤ n → n ≤ 1048577 → 0 ≤ sumA S l n ∧ sumA S l n ≤ min (n + t.length) 1048577 := by
  intro l
  induction l with
  | nil => intro t n h _ h0 h1; cases h; simp only [sumA, List.length_nil]; omega
  | cons s r ih =>
    rintro t n ⟨a, b, rfl, h1, h2⟩ hp h0 hn
    have hk : 0 ≤ symN S s ∧ symN S s ≤ min (a.length : Int) 1048577 := by
      unfold symN
      rcases h1 with ⟨e, h1⟩ | ⟨e, b, rfl, _⟩
      · rw [if_pos e]
        rw [Int.toNat_of_nonneg (hp s (by simp) e)] at h1
        exact h1
      · rw [if_neg e]; simp; decide
    simp only [sumA]
    rw [if_neg (by omega), List.length_append]
    have := ih h2 (fun x hx => hp x (by simp [hx])) (n := min (n + symN S s) 1048577) (by omega) (by omega)
    omega
theorem shortP_of {g : GramM} (hm : MayB g) {S : List Int} (hl : S.length = g.sorts.length) (h : SoundN g S) (hc : ClosedN g S) : ShortP g S := by
  have low : ∀ (k : Nat) (t : List UInt8), TX g k t → 0 ≤ gi S k ∧ gi S k ≤ min (t.length : Int) 1048577 := fun k t ht => by
    refine TX.ind (P := fun k t => 0 ≤ gi S k ∧ gi S k ≤ min (t.length : Int) 1048577) (fun x t hx hr _ h => ?_) ht
    have h2 := text_sum (n := 0) h (fun s hs hk => by obtain ⟨k, hk, _⟩ := hm.sym x hx s hs hk; omega) (by omega) (by omega)
    have h3 := hc x hx hr h2.1
    obtain ⟨k, hk, _⟩ := hm.left x hx
    rw [hk] at h3 ⊢
    rw [Int.toNat_natCast]
    omega
  refine ⟨hl, fun k n hk => ?_⟩
  have hg : gi S k = n := gi_some (by rw [Int.toNat_natCast]; exact hk)
  rcases h k n hk with rfl | ⟨t, ht, hn⟩
  · exact .inl ⟨rfl, fun t ht => by have := (low k t ht).1; omega⟩
  · exact .inr ⟨t, ht, hn, fun t' ht' => by have := (low k t' ht').2; omega⟩
def sizeN (S : List Int) : Nat := (S.map fun n => if n < 0 then 1048578 else n.toNat).foldr (· + ·) 0
theorem sizeN_cons (n : Int) (S : List Int) : sizeN (n :: S) = (if n < 0 then 1048578 else n.toNat) + sizeN S := rfl
theorem sizeN_set : ∀ {S : List Int} {k : Nat} {m n : Int}, S[k]? = some m → 0 ≤ n → n ≤ 1048577 → (m < 0 ∨ n < m) → sizeN (S.set k n) < sizeN S := by
  intro S
  induction S with
  | nil => intro k m n h; simp at h
  | cons a r ih =>
    intro k m n h h0 h1 h2
    cases k with
    | zero =>
      simp at h; subst h
      rw [List.set_cons_zero, sizeN_cons, sizeN_cons, if_neg (by omega)]
      split <;> omega
    | succ k =>
      rw [List.set_cons_succ, sizeN_cons, sizeN_cons]
      have := ih (k := k) (by simpa using h) h0 h1 h2
      omega
end Go.Proofs.YtodnlcbnbkkanaaGreatDoor
end
section
namespace Go.Proofs.YtodnlcbnbkkanaaGreatDoor
open Go Go.RowKit

set_option maxRecDepth 100000 in
set_option maxHeartbeats 1000000 in
theorem mark_any (M : List Bool) (B k n c : Nat) (w : World) (hb : Blk w B 4 (bools M)) (hk : k < M.length) (hn : M.length ≤ n) (hn2 : n ≤ 1048576) :
    Calls Tryz.prog 72 #[.slice (some ⟨B, 0, none⟩) n c, .int .i64 k] w fun e w' => e = .returned (.bool (!lv M k)) ∧ w' = w.setCell ⟨B, k, none⟩ (.bool true) := by
  have c0 := hb.cell k
  rw [bools_at M k hk] at c0
  have f0 := hb.frozen k
  have l0 := hb.lt
  have z0 : (0 : Int) ≤ (k : Int) := by omega
  have z1 : (k : Int) < (n : Int) := by omega
  obtain ⟨v, hv⟩ : ∃ v, v = lv M k := ⟨_, rfl⟩
  rw [← hv] at c0 ⊢
  clear hv hb hk hn
  go_enter Tryz.func72, Tryz.ntmps72
  go_wp2
  go_ret
  exact ⟨rfl, rfl⟩

set_option maxRecDepth 100000 in
set_option maxHeartbeats 1000000 in
theorem making1_any (x : ProdM) (w : World) : Calls Tryz.prog 99 #[prodV x] w fun e w' => e = .returned (.bool (x.role == 11)) ∧ Below w.heap.size w w' := by
  unfold prodV prodC
  go_enter Tryz.func99, Tryz.ntmps99
  go_wp2
  go_ret
  exact ⟨rfl, (Below.refl _ _).alloc (Nat.le_refl _) _⟩

def QuietAt {σ : Type} (Q : ProdM → σ → Prop) (L : List ProdM) (s : σ) (q j : Nat) : Prop := ∀ (i : Nat) (x : ProdM), L[i]? = some x → (i < j ∧ j ≤ i + q) ∨ (j ≤ i ∧ j + L.length ≤ i + q) → Q x s
theorem QuietAt.none {σ : Type} {Q : ProdM → σ → Prop} {L : List ProdM} {s : σ} (j : Nat) : QuietAt Q L s 0 j := fun i x hx h => by
  have := (List.getElem?_eq_some_iff.1 hx).1
  omega
theorem QuietAt.more {σ : Type} {Q : ProdM → σ → Prop} {L : List ProdM} {s : σ} {q j : Nat} (h : QuietAt Q L s q j) {x : ProdM} (hx : L[j]? = some x) (hq : Q x s) : QuietAt Q L s (q + 1) (j + 1) := fun i y hy hi => by
  by_cases e : i = j
  · subst e; rw [hx] at hy; cases hy; exact hq
  · exact h i y hy (by omega)
theorem QuietAt.next {σ : Type} {Q : ProdM → σ → Prop} {L : List ProdM} {s : σ} {q : Nat} (h : QuietAt Q L s q L.length) : QuietAt Q L s q 0 := fun i y hy hi => by
  have := (List.getElem?_eq_some_iff.1 hy).1
  exact h i y hy (by omega)
theorem QuietAt.all {σ : Type} {Q : ProdM → σ → Prop} {L : List ProdM} {s : σ} {q j : Nat} (h : QuietAt Q L s q j) (hq : L.length ≤ q) (hj : j ≤ L.length) : ∀ x, x ∈ L → Q x s := fun x hx => by
  obtain ⟨i, hi⟩ := List.mem_iff_getElem?.1 hx
  have := (List.getElem?_eq_some_iff.1 hi).1
  exact h i x hi (by omega)

def StepsBy {σ : Type} (K : Nat) (lb : Array Value) (L : List ProdM) (Inv : σ → World → Prop) (Q : ProdM → σ → Prop) (μ : σ → Nat) : Prop :=
  ∀ (s : σ) (W : World) (p : ProdM), p ∈ L → Inv s W → Calls Tryz.prog K (#[prodV p] ++ lb) W fun e w' => ∃ b s', e = .returned (.bool b) ∧ Inv s' w' ∧ (b = false → s' = s ∧ Q p s) ∧ (b = true → μ s' < μ s)

set_option maxRecDepth 100000 in
set_option maxHeartbeats 4000000 in
theorem settle_any {σ : Type} (L : List ProdM) (aL : Option Addr) (cL : Nat) (K : Nat) (lb : Array Value) (eg : ∀ args w, (callFunc K args).run Tryz.prog w = .ok (.enter K args) w)
    (Inv : σ → World → Prop) (Q : ProdM → σ → Prop) (μ : σ → Nat) (hL : L.length ≤ 1048576)
    (hrow : ∀ s W, Inv s W → RowProd W aL L) (hInv : ∀ s W W', Inv s W → Below W.heap.size W W' → Inv s W') (H : StepsBy K lb L Inv Q μ) (s0 : σ) (w : World) (h0 : Inv s0 w) :
    Calls Tryz.prog 67 #[.slice aL L.length cL, .func (.func K) #[] lb] w fun e w' => e = .returned (.tuple #[]) ∧ ∃ s, Inv s w' ∧ ∀ p, p ∈ L → Q p s := by
  have HR := Lib.hid hrow
  have HI := Lib.hid hInv
  have HH := Lib.hid H
  have H0 := Lib.hid h0
  obtain ⟨n, hn⟩ : ∃ n, n = L.length := ⟨_, rfl⟩
  have HN := Lib.hid hn
  rw [← hn] at hL ⊢
  clear hrow hInv H h0 hn
  go_enter Tryz.func67, Tryz.ntmps67
  go_wp2
  go_step3
  go_wp2
  go_step3
  go_wp2
  go_loopg [4] (μ s0) (fun gg vq wr => ∃ (q : Nat) (s : σ), vq = .int .i64 q ∧ q ≤ n ∧ μ s ≤ gg ∧ Hid (Inv s wr ∧ QuietAt Q L s q 0))
  case atStart => exact ⟨0, s0, rfl, Nat.zero_le _, Nat.le_refl _, Lib.hid ⟨H0.out, QuietAt.none 0⟩⟩
  case round =>
    clear H0
    obtain ⟨q0, sa, rfl, hq0, hμ, K0⟩ := hrel
    by_cases hlt : q0 < n
    · have z1 : (q0 : Int) < (n : Int) := by omega
      go_wp2
      go_loopg [4, 13] n (fun gg vq vj wr => ∃ (q j : Nat) (s : σ), vq = .int .i64 q ∧ vj = .int .i64 j ∧ q < n ∧ j ≤ n ∧ n - j ≤ gg ∧ Hid (Inv s wr ∧ QuietAt Q L s q j ∧ ((s = sa ∧ j ≤ q) ∨ μ s < μ sa)))
      case atStart => exact ⟨q0, 0, sa, rfl, rfl, hlt, Nat.zero_le _, Nat.le_refl _, Lib.hid ⟨K0.out.1, K0.out.2, .inl ⟨rfl, Nat.zero_le _⟩⟩⟩
      case round =>
        clear K0
        obtain ⟨q, j, s, rfl, rfl, hq, hj, hgg, K1⟩ := hrel
        by_cases hlj : j < n
        · obtain ⟨x, hx⟩ : ∃ x, L[j]? = some x := ⟨_, List.getElem?_eq_getElem (by rw [← HN.out]; exact hlj)⟩
          obtain ⟨b1, o1, rfl, hb1, hc1, hi1⟩ := HR.out s _ K1.out.1 j x hx
          obtain ⟨x0, x1, x2, x3, x4, x5, x6⟩ := Prod_at hc1
          have z2 : (j : Int) < (n : Int) := by omega
          have z0 : (0 : Int) ≤ (j : Int) := by omega
          have z3 : IntKind.i64.wrap ((q : Int) + 1) = (q : Int) + 1 := IntWalk.i64_in _ (by omega)
          have HX := Lib.hid hx
          clear hx hi1 hc1
          have HC := Lib.hid (fun W (hW : Inv s W) => HH.out s W x (List.mem_of_getElem? HX.out) hW)
          have HInv : Hid (∀ W W', Inv s W → Below W.heap.size W W' → Inv s W') := Lib.hid (HI.out s)
          unfold prodV prodC at HC
          go_wp2_with fail
          refine (HC.out _ (HInv.out _ _ K1.out.1 ((Below.refl _ _).alloc (Nat.le_refl _) _))).mono ?_
          rintro e w3 ⟨b, s', rfl, hi3, hb0, hb1⟩
          have HI3 := Lib.hid hi3
          have HQ := Lib.hid K1.out.2
          clear hi3 HC HInv K1
          cases b with
          | true =>
            have hlt3 := hb1 rfl
            have HZ : Hid (Inv s' w3 ∧ QuietAt Q L s' 0 (j + 1) ∧ ((s' = sa ∧ j + 1 ≤ 0) ∨ μ s' < μ sa)) := Lib.hid ⟨HI3.out, QuietAt.none _, .inr (by
              rcases HQ.out.2 with ⟨e, _⟩ | h
              · rw [← e]; exact hlt3
              · omega)⟩
            clear hb0 hb1 hlt3 HQ HI3
            go_wp2
            go_roundg (n - (j + 1))
            case rel => exact ⟨0, j + 1, s', rfl, by go_num, by omega, by omega, Nat.le_refl _, HZ⟩
            case measure => omega
          | false =>
            obtain ⟨rfl, hqs⟩ := hb0 rfl
            have HZ : Hid (Inv s' w3 ∧ QuietAt Q L s' (q + 1) (j + 1) ∧ ((s' = sa ∧ j + 1 ≤ q + 1) ∨ μ s' < μ sa)) := Lib.hid ⟨HI3.out, HQ.out.1.more HX.out hqs, by
              rcases HQ.out.2 with ⟨e, h⟩ | h
              · exact .inl ⟨e, by omega⟩
              · exact .inr h⟩
            clear hb0 hb1 hqs HQ HI3
            by_cases hfull : q + 1 = n
            · have hf1 : ((q : Int) + 1 == (n : Int)) = true := by simp; omega
              have HE : Hid (∀ p, p ∈ L → Q p s') := Lib.hid (HZ.out.2.1.all (by rw [← HN.out]; omega) (by rw [← HN.out]; omega))
              clear hfull
              go_wp2
              rw [Exit.noGoto_normal]
              refine bodyPost_end (results_none rfl _ _ _) rfl ?_
              exact ⟨rfl, s', HZ.out.1, HE.out⟩
            · have hf1 : ((q : Int) + 1 == (n : Int)) = false := by simp; omega
              go_wp2
              go_roundg (n - (j + 1))
              case rel => exact ⟨q + 1, j + 1, s', by go_num, by go_num, by omega, by omega, Nat.le_refl _, HZ⟩
              case measure => omega
        · obtain rfl : j = n := by omega
          have HZ : Hid (Inv s wr ∧ QuietAt Q L s q 0 ∧ μ s < μ sa) := Lib.hid ⟨K1.out.1, (by have h := K1.out.2.1; rw [HN.out] at h; exact h.next), by
            rcases K1.out.2.2 with ⟨_, h⟩ | h
            · omega
            · exact h⟩
          clear K1
          go_wp2
          go_roundg (μ s)
          case rel => exact ⟨q, s, rfl, by omega, Nat.le_refl _, Lib.hid ⟨HZ.out.1, HZ.out.2.1⟩⟩
          case measure => have := HZ.out.2.2; omega
    · obtain rfl : q0 = n := by omega
      have HE : Hid (∀ p, p ∈ L → Q p sa) := Lib.hid (K0.out.2.all (by rw [← HN.out]; omega) (Nat.zero_le _))
      go_wp2
      rw [Exit.noGoto_normal]
      refine bodyPost_end (results_none rfl _ _ _) rfl ?_
      exact ⟨rfl, sa, K0.out.1, HE.out⟩
end Go.Proofs.YtodnlcbnbkkanaaGreatDoor
end
section
namespace Go.Proofs.YtodnlcbnbkkanaaGreatDoor
open Go Go.RowKit

theorem Tryz.info4 : (Tryz.prog.info? 4).map (fun i => (i.zero, i.size, i.bytes)) = some (some (.bool false), 1, 1) := by kernel_rfl
theorem make_bools (n : Nat) (hn : n ≤ 1000) (w : World) : (Instr.makeSlice 31 (.int .i64 (n : Int)) (.int .i64 (n : Int))).run Tryz.prog w = .ok (.slice (some ⟨w.heap.size, 0, none⟩) n n) (w.alloc (.cells (bools (List.replicate n false)) 4)) := by
  obtain ⟨i0, hi, hz0, hz1, hz2⟩ := info_parts Tryz.info4
  rw [← bools_made]
  exact run_make_row 31 4 i0 (.bool false) Tryz.underlying31 hi hz0 hz1 rfl .i64 .i64 n (by rw [hz2]; omega) (by omega) w

structure PI (g : GramM) (w wr : World) (L : List Bool) : Prop where
  b0 : Blk wr w.heap.size 27 (gramC g)
  b1 : Blk wr (w.heap.size + 1) 4 (bools L)
  b2 : Blk wr (w.heap.size + 1 + 1) 31 #[.slice (some ⟨w.heap.size + 1, 0, none⟩) g.sorts.length g.sorts.length]
  b : Below w.heap.size w wr
  len : L.length = g.sorts.length
end Go.Proofs.YtodnlcbnbkkanaaGreatDoor
end
section
namespace Go.Proofs.YtodnlcbnbkkanaaGreatDoor
open Go Go.RowKit

def Edge (g : GramM) (L : List Bool) (k t : Nat) : Prop := ∃ x, x ∈ g.prods ∧ x.left = k ∧ sortsB (lv L) x = true ∧ ∃ s, s ∈ x.right ∧ s.kind = 1 ∧ s.sort = t
inductive RF (g : GramM) (L : List Bool) (j : Nat) : Nat → Prop
  | refl : RF g L j j
  | step {k t : Nat} : RF g L j k → Edge g L k t → RF g L j t
structure Mid (g : GramM) (L : List Bool) (j : Nat) (M1 M : List Bool) : Prop where
  len : M.length = M1.length
  le : ∀ k : Nat, M1[k]? = some true → M[k]? = some true
  closed : ∀ k t : Nat, M[k]? = some true → M1[k]? ≠ some true → Edge g L k t → M[t]? = some true
  sound : ∀ k : Nat, M[k]? = some true → M1[k]? = some true ∨ RF g L j k
def Grew (g : GramM) (L : List Bool) (j : Nat) (M1 M : List Bool) : Prop := Mid g L j M1 M ∧ M[j]? = some true
def Done (g : GramM) (L : List Bool) (j : Nat) (l : List ProdM) (M : List Bool) : Prop := ∀ x, x ∈ l → x.left = j → sortsB (lv L) x = true → ∀ s, s ∈ x.right → s.kind = 1 → M[s.sort.toNat]? = some true
theorem count_le : ∀ {M M' : List Bool}, M'.length = M.length → (∀ k : Nat, M[k]? = some true → M'[k]? = some true) → M'.count false ≤ M.count false := by
  intro M
  induction M with
  | nil => intro M' h _; cases M' with | nil => exact Nat.le_refl _ | cons _ _ => simp at h
  | cons b r ih =>
    intro M' h hk
    cases M' with
    | nil => simp at h
    | cons c s =>
      have := ih (M' := s) (by simpa using h) (fun k hh => by simpa using hk (k + 1) (by simpa using hh))
      simp only [List.count_cons]
      cases b with
      | false => cases c <;> simp <;> omega
      | true =>
        have := hk 0 rfl
        simp at this
        subst this
        simpa using ih (M' := s) (by simpa using h) (fun k hh => by simpa using hk (k + 1) (by simpa using hh))

structure VK (w0 : World) (Bg Bl Q Bm Bv : Nat) : Prop where
  q : w0.heap.size ≤ Q
  g : Bg ≠ Q
  l : Bl ≠ Q
  m : Bm ≠ Q
  v : Bv ≠ Q
theorem grown_of_below {w W : World} (h : Below w.heap.size w W) (r : Option Nat) : w.grownBy W r := ⟨h.os, h.tape, h.output, h.size, fun k hk _ => h.block k hk⟩
theorem grown_trans {A B C : World} {r : Option Nat} (h : A.grownBy B r) (k : B.grownBy C r) : A.grownBy C r := h.andThen k (fun j e => .inr e)
theorem grown_set (W : World) (Q k : Nat) (v : Value) : W.grownBy (W.setCell ⟨Q, k, none⟩ v) (some Q) :=
  ⟨rfl, rfl, rfl, by rw [World.size_setCell]; exact Nat.le_refl _, fun j hj hne => Below.heap_setCell W ⟨Q, k, none⟩ v j (fun e => hne (by show some j = some Q; rw [show j = Q from e]))⟩
end Go.Proofs.YtodnlcbnbkkanaaGreatDoor
end
section
namespace Go.Proofs.YtodnlcbnbkkanaaGreatDoor
open Go Go.RowKit
end Go.Proofs.YtodnlcbnbkkanaaGreatDoor
end
section
namespace Go.Proofs.YtodnlcbnbkkanaaGreatDoor
open Go Go.RowKit

def ReachL (g : GramM) (L R : List Bool) : Prop := R.length = g.sorts.length ∧ ∀ k : Nat, R[k]? = some true ↔ RF g L g.start.toNat k
end Go.Proofs.YtodnlcbnbkkanaaGreatDoor
end
section
namespace Go.Proofs.YtodnlcbnbkkanaaGreatDoor
open Go Go.RowKit

def deadI (L : List Bool) : Int := firstI (fun b => !b) L
def WellP (g : GramM) (r : Int × Int) : Prop :=
  if checkB g then ∃ L, Live g L ∧ ((0 ≤ deadI L ∧ r = (161, deadI L)) ∨ (deadI L < 0 ∧ ∃ R, ReachL g L R ∧ r = if 0 ≤ deadI R then (162, deadI R) else (0, 0))) else r = (160, 0)
end Go.Proofs.YtodnlcbnbkkanaaGreatDoor
end
section
namespace Go.Proofs.YtodnlcbnbkkanaaGreatDoor
open Go Go.RowKit

def ofK (l : List ProdM) (n : Int) : List Int := (l.zipIdx.filter fun p => p.1.left == n).map fun p => (p.2 : Int)
def OfP (g : GramM) (n : Int) (e : Ending) (w' : World) : Prop :=
  if checkB g then (if numB n g.sorts.length then ∃ a c, e = .returned (.tuple #[.slice a (ofK g.prods n).length c, .int .i64 0]) ∧ RowInt w' a (ofK g.prods n) else e = .returned (.tuple #[.slice none 0 0, .int .i64 4])) else e = .returned (.tuple #[.slice none 0 0, .int .i64 160])
end Go.Proofs.YtodnlcbnbkkanaaGreatDoor
end
section
namespace Go.Proofs.YtodnlcbnbkkanaaGreatDoor
open Go Go.RowKit

def cnt (p : Nat → Bool) (i : Nat) : Nat := (List.range i).countP p
def plI (p : Nat → Bool) (i : Nat) : Int := if p i then cnt p i else -1
end Go.Proofs.YtodnlcbnbkkanaaGreatDoor
end
section
namespace Go.Proofs.YtodnlcbnbkkanaaGreatDoor
open Go Go.RowKit

theorem row_cells {α : Type} {cs : α → Array Value} {size : Nat} {G : World → α → Prop} (hk : ∀ x, (cs x).size = size) (hsz : 0 < size) {w : World} {b off : Nat} {l : List α} (h : RowOf size cs G w (some ⟨b, off, none⟩) l) :
    ∀ (j : Nat) (u : Value), (cellsL cs l)[j]? = some u → w.cell? ((⟨b, off, none⟩ : Addr).add j) = some u := by
  intro j u hj
  have hjl : j < l.length * size := by
    have := (List.getElem?_eq_some_iff.1 hj).1
    rw [cellsL_length hk] at this
    exact this
  have hi : j / size < l.length := Nat.div_lt_of_lt_mul (by rw [Nat.mul_comm]; exact hjl)
  have hr : j % size < size := Nat.mod_lt _ hsz
  have hjr : j / size * size + j % size = j := by rw [Nat.mul_comm]; exact Nat.div_add_mod j size
  obtain ⟨x, hx⟩ : ∃ x, l[j / size]? = some x := ⟨_, List.getElem?_eq_getElem hi⟩
  have hc := cellsL_at hk l (j / size) x hx (j % size) hr
  rw [hjr, hj] at hc
  obtain ⟨b', off', e, _, hcells, _⟩ := h (j / size) x hx
  cases e
  have := hcells (j % size) u hc.symm
  rw [add_off, ← hjr, ← Nat.add_assoc]
  exact this

section
variable {P : Program} {w : World} {ops : Array Oper} {rest : List Oper} {o : Oper} {a : Act} {Q : Exit → Act → World → Prop}
theorem wpList_append_row {α : Type} {cs : α → Array Value} {G : World → α → Prop} (hgd : o.guard = none) (s x : Operand) (t : TypeId)
    (ho : o.op = .call { callee := .builtin .append, args := #[s, x], argTypes := #[t, t] })
    (base : Nat) (e : TypeId) (i : TypeInfo) (z : Value) (size bytes : Nat) (ht : P.underlying t = some (.slice e)) (hi : P.info? e = some i) (hz : i.zero = some z)
    (hsize : i.size = size) (hby : i.bytes = bytes) (hzs : z.cells.size = size) (hsz : 0 < size)
    (v : Value) (n : Nat) (xs : List Value) (hs : a.eval s = v) (hown : w.ownsRow base e size v n xs)
    (ad : Option Addr) (c : Nat) (l : List α) (hx : a.eval x = .slice ad l.length c) (hrow : RowOf size cs G w ad l) (hk : ∀ x, (cs x).size = size) (h1 : ∀ x, ∀ u ∈ (cs x).toList, u.oneCell' = true) (hnil : ad = none → c = 0)
    (h63 : n + l.length ≤ maxLen) (hbytes : (n + l.length) * bytes ≤ 140737488355328) (hbase : base ≤ w.heap.size)
    (h : ∀ v' w', w'.ownsRow base e size v' (n + l.length) (xs ++ cellsL cs l) → w.grownBy w' v.ownBlock → wpList P ops Q rest (a.put o.dst v') w') : wpList P ops Q (o :: rest) a w := by
  cases ad with
  | none =>
    have hl : l = [] := by
      cases l with
      | nil => rfl
      | cons y r => obtain ⟨_, _, e, _⟩ := hrow 0 y rfl; cases e
    subst hl
    rw [hnil rfl] at hx
    refine wpList_append_own_none hgd s x t ho base e i size ht hi v n xs hs hown hx (h v w ?_ (World.grownBy.refl _ _))
    simpa [cellsL] using hown
  | some p =>
    refine wpList_append_own w hgd s x t ho base e i z size bytes ht hi hz hsize hby hzs hsz v n xs hs hown p l.length c (cellsL cs l) hx (cellsL_length hk l) ?_ ?_ h63 hbytes hbase (fun v' w' r1 r2 _ => h v' w' r1 r2)
    · intro j u hj
      cases hl : l with
      | nil => rw [hl] at hj; simp [cellsL] at hj
      | cons y r =>
        obtain ⟨b, off, e, _⟩ := hrow 0 y (by rw [hl]; rfl)
        cases e
        exact row_cells hk hsz hrow j u hj
    · intro u hu
      unfold cellsL at hu
      obtain ⟨y, _, hy⟩ := List.mem_flatMap.1 hu
      exact h1 y u hy
end

end Go.Proofs.YtodnlcbnbkkanaaGreatDoor
end
section
namespace Go.Proofs.YtodnlcbnbkkanaaGreatDoor
open Go Go.RowKit

def stayP (S : List Bool) (x : ProdM) : Bool := lv S x.left && sortsB (lv S) x
end Go.Proofs.YtodnlcbnbkkanaaGreatDoor
end
section
namespace Go.Proofs.YtodnlcbnbkkanaaGreatDoor
open Go Go.RowKit

def movS (p : Nat → Bool) (s : SymM) : SymM := if s.kind = 1 then ⟨s.kind, s.set, plI p s.sort.toNat⟩ else s
theorem own_slice {w : World} {base e size : Nat} {v : Value} {n : Nat} {xs : List Value} (h : w.ownsRow base e size v n xs) : ∃ a c, v = .slice a n c ∧ (∀ k, k < n → ∃ g, a = some ⟨g, 0, none⟩ ∧ base ≤ g) ∧ (a = none → c = 0) := by
  rcases h.2 with ⟨rfl, h0⟩ | ⟨g, cap, cur, rfl, hg, _⟩
  · exact ⟨none, 0, by rw [h0], fun k hk => by omega, fun _ => rfl⟩
  · exact ⟨_, cap, rfl, fun k hk => ⟨g, rfl, hg⟩, fun h => by cases h⟩

def movP (p : Nat → Bool) (ra : Option Addr) (rc : Nat) (x : ProdM) : ProdM := ⟨plI p x.left.toNat, ra, rc, x.right.map (movS p), x.cons, x.role, x.prefer, x.avoid, x.frm⟩
end Go.Proofs.YtodnlcbnbkkanaaGreatDoor
end
section
namespace Go.Proofs.YtodnlcbnbkkanaaGreatDoor
open Go Go.RowKit

theorem Tryz.info65 : (Tryz.prog.info? 65).map (fun i => (i.zero, i.size, i.bytes)) = some (some (.agg #[.int .i64 0, .slice none 0 0, .string ⟨#[]⟩, .int .i64 0, .bool false, .bool false, .int .i64 0]), 7, 72) := by kernel_rfl
def keepL {α : Type} (p : Nat → Bool) (l : List α) : List α := (l.zipIdx.filter fun q => p q.2).map (·.1)
def movF (p : Nat → Bool) (f : ForM) : Option ForM := if plI p f.parent.toNat ≠ -1 ∧ plI p f.child.toNat ≠ -1 then some ⟨plI p f.parent.toNat, f.at_, plI p f.child.toNat⟩ else none
def movW (p : Nat → Bool) (f : FolM) : Option FolM := if plI p f.sort.toNat ≠ -1 then some ⟨plI p f.sort.toNat, f.not⟩ else none
def bareP (x : ProdM) : ProdM := ⟨x.left, none, 0, x.right, x.cons, x.role, x.prefer, x.avoid, x.frm⟩

theorem own_put {w : World} {base e size : Nat} {v : Value} {n : Nat} {xs : List Value} (h : w.ownsRow base e size v n xs) {B i : Nat} (hB : B < base) (u : Value) : (w.setCell ⟨B, i, none⟩ u).ownsRow base e size v n xs := ownsRow_setCell_below h (a := ⟨B, i, none⟩) hB u

section
variable {g : GramM} {pS pP : Nat → Bool} {w : World} {P1 P2 Bo N0 : Nat} {st : Int} {v0 v1 v3 v4 : Value} {ss : List ByteArray} {ps : List ProdM} {fs : List ForM} {ws : List FolM} {wr W : World}
end
end Go.Proofs.YtodnlcbnbkkanaaGreatDoor
end
section
namespace Go.Proofs.YtodnlcbnbkkanaaGreatDoor
open Go Go.RowKit

def sP (S : List Bool) (i : Nat) : Bool := lv S i
def pP (g : GramM) (S : List Bool) (i : Nat) : Bool := match g.prods[i]? with | some x => stayP S x | none => false

structure KeptM (g : GramM) (S : List Bool) (h : GramM) : Prop where
  sorts : h.sorts = keepL (sP S) g.sorts
  start : h.start = plI (sP S) g.start.toNat
  prods : h.prods.map bareP = (keepL (pP g S) g.prods).map fun x => bareP (movP (sP S) none 0 x)
  forbid : h.forbid = g.forbid.filterMap (movF (pP g S))
  follow : h.follow = g.follow.filterMap (movW (sP S))
structure NilOK (g : GramM) : Prop where
  s : g.sa = none → g.sc = 0
  p : g.pa = none → g.pc = 0
  f : g.fa = none → g.fc = 0
  w : g.wa = none → g.wc = 0
  r : ∀ x, x ∈ g.prods → x.ra = none → x.rc = 0

def GFar (N : Nat) (w : World) (h : GramM) : Prop := ∀ W : World, (∀ k, N ≤ k → k < w.heap.size → W.heap[k]? = w.heap[k]?) → GIn W h
theorem cells7 {W : World} {B : Nat} {u0 u1 u2 u3 u4 u5 u6 : Value} (h : Blk W B 65 #[u0, u1, u2, u3, u4, u5, u6]) : W.cell? ⟨B, 0, none⟩ = some u0 ∧ W.cell? ⟨B, 1, none⟩ = some u1 ∧ W.cell? ⟨B, 2, none⟩ = some u2 ∧ W.cell? ⟨B, 3, none⟩ = some u3 ∧ W.cell? ⟨B, 4, none⟩ = some u4 ∧ W.cell? ⟨B, 5, none⟩ = some u5 ∧ W.cell? ⟨B, 6, none⟩ = some u6 :=
  ⟨h.cell 0, h.cell 1, h.cell 2, h.cell 3, h.cell 4, h.cell 5, h.cell 6⟩
end Go.Proofs.YtodnlcbnbkkanaaGreatDoor
end
section
namespace Go.Proofs.YtodnlcbnbkkanaaGreatDoor
open Go Go.RowKit

def CsAt (cs : Array Value) (k : Nat) (vs : Array Value) : Prop := ∀ j v, vs[j]? = some v → cs[k + j]? = some v
def putC (cs : Array Value) (k : Nat) : List Value → Array Value
  | [] => cs
  | v :: r => putC (cs.setIfInBounds k v) (k + 1) r
theorem putC_size (l : List Value) : ∀ (cs : Array Value) (k : Nat), (putC cs k l).size = cs.size := by
  induction l with
  | nil => intro cs k; rfl
  | cons v r ih => intro cs k; rw [putC, ih, Array.size_setIfInBounds]
theorem putC_out (l : List Value) : ∀ (cs : Array Value) (k i : Nat), i < k ∨ k + l.length ≤ i → (putC cs k l)[i]? = cs[i]? := by
  induction l with
  | nil => intro cs k i _; rfl
  | cons v r ih =>
    intro cs k i h
    rw [putC, ih _ _ _ (by simp at h; omega), Array.getElem?_setIfInBounds_ne (by simp at h; omega)]
theorem putC_in (l : List Value) : ∀ (cs : Array Value) (k j : Nat) (v : Value), l[j]? = some v → k + l.length ≤ cs.size → (putC cs k l)[k + j]? = some v := by
  induction l with
  | nil => intro cs k j v h; simp at h
  | cons u r ih =>
    intro cs k j v h hs
    simp at hs
    rw [putC]
    cases j with
    | zero =>
      simp at h; subst h
      rw [putC_out _ _ _ _ (.inl (by omega)), Nat.add_zero, Array.getElem?_setIfInBounds_self_of_lt (by omega)]
    | succ j =>
      have := ih (cs.setIfInBounds k u) (k + 1) j v (by simpa using h) (by simp; omega)
      rw [show k + (j + 1) = k + 1 + j by omega]
      exact this
theorem Blk.setCells {B t : Nat} : ∀ (vs : List Value) {W : World} {cs : Array Value} (k : Nat), Blk W B t cs → Blk (W.setCells B k vs) B t (putC cs k vs) := by
  intro vs
  induction vs with
  | nil => intro W cs k h; exact h
  | cons v r ih => intro W cs k h; exact ih (k + 1) (h.set k v)
theorem CsAt.put {cs vs : Array Value} {k : Nat} (h : k + vs.size ≤ cs.size) : CsAt (putC cs k vs.toList) k vs := fun j v hj => by
  exact putC_in _ _ _ _ _ (by simpa using hj) (by simpa using h)
theorem CsAt.off {cs us : Array Value} {k m : Nat} {l : List Value} (h : CsAt cs m us) (hk : m + us.size ≤ k ∨ k + l.length ≤ m) : CsAt (putC cs k l) m us := fun j v hj => by
  have := (Array.getElem?_eq_some_iff.1 hj).1
  rw [putC_out _ _ _ _ (by omega)]
  exact h j v hj
theorem CsAt.cells {W : World} {B t k : Nat} {cs vs : Array Value} (hb : Blk W B t cs) (h : CsAt cs k vs) : CellsAt W B k vs := fun j v hj => (hb.cell _).trans (h j v hj)
theorem grown_setCells (B : Nat) : ∀ (vs : List Value) (k : Nat) (W : World), W.grownBy (W.setCells B k vs) (some B) := by
  intro vs
  induction vs with
  | nil => intro k W; exact World.grownBy.refl _ _
  | cons v r ih => intro k W; exact grown_trans (grown_set W B k v) (ih (k + 1) _)

def PRow (cs : Array Value) (off : Nat) (l : List ProdM) (j : Nat) : Prop := ∀ (m : Nat) (x : ProdM), j ≤ m → l[m]? = some x → CsAt cs (off + m * 7) (prodC x)

theorem run_clear_prods (w : World) (b o n c : Nat) (hn : 0 < n)
    (hc : ∀ j, j < n * 7 → (w.cell? ⟨b, o + j, none⟩).isSome = true) (hf : ∀ j, j < n * 7 → w.frozen? ⟨b, o + j, none⟩ = false) :
    ∃ vs : List Value, vs.length = n * 7 ∧ ∀ ty, (Builtin.clear_ #[23] ty #[.slice (some ⟨b, o, none⟩) n c]).run Tryz.prog w = .ok (.tuple #[]) (w.setCells b o vs) := by
  have ht : Tryz.prog.underlying 23 = some (.slice 65) := by kernel_rfl
  have hv : ∀ w, (zeroValue 65).run Tryz.prog w = .ok (.agg #[.int .i64 0, .slice none 0 0, .string ⟨#[]⟩, .int .i64 0, .bool false, .bool false, .int .i64 0]) w := fun _ => by kernel_rfl
  have hl : (Builtin.zeroCells (Value.agg #[.int .i64 0, .slice none 0 0, .string ⟨#[]⟩, .int .i64 0, .bool false, .bool false, .int .i64 0]).cells n).toList.length = n * 7 := by
    simp [Builtin.zeroCells, Value.cells]
  refine ⟨(Builtin.zeroCells (Value.agg #[.int .i64 0, .slice none 0 0, .string ⟨#[]⟩, .int .i64 0, .bool false, .bool false, .int .i64 0]).cells n).toList, hl, ?_⟩
  have hst := run_storeCells_cells (P := Tryz.prog) b o (Builtin.zeroCells (Value.agg #[.int .i64 0, .slice none 0 0, .string ⟨#[]⟩, .int .i64 0, .bool false, .bool false, .int .i64 0]).cells n).toList 0 w (fun j hj => by simpa using hc j (by rw [← hl]; simpa using hj)) (fun j hj => by simpa using hf j (by rw [← hl]; simpa using hj)) (fun v hv => by
    simp [Builtin.zeroCells, Value.cells] at hv
    obtain ⟨i, _, rfl⟩ := hv
    have h7 : i % 7 < 7 := Nat.mod_lt _ (by decide)
    generalize i % 7 = r at *
    have h : r = 0 ∨ r = 1 ∨ r = 2 ∨ r = 3 ∨ r = 4 ∨ r = 5 ∨ r = 6 := by omega
    rcases h with rfl | rfl | rfl | rfl | rfl | rfl | rfl <;> rfl)
  simp only [Nat.add_zero] at hst
  obtain ⟨m, rfl⟩ : ∃ m, n = m + 1 := ⟨n - 1, by omega⟩
  intro ty
  simp [Builtin.clear_, run_underlying ht, hv, hst]

structure DelBy {σ : Type} (K : Nat) (lb : Array Value) (B off : Nat) (l : List ProdM) (q : ProdM → Bool) (f : σ → ProdM → σ) (Inv : σ → World → Prop) : Prop where
  call : ∀ (s : σ) (W : World) (p : ProdM), p ∈ l → Inv s W → Calls Tryz.prog K (#[prodV p] ++ lb) W fun e w' => e = .returned (.bool (q p)) ∧ Inv (f s p) w' ∧ (∀ b cs, Blk W b 65 cs → Blk w' b 65 cs)
  grown : ∀ (s : σ) (W W' : World), Inv s W → W.grownBy W' (some B) → Inv s W'

theorem take_fold {σ : Type} (f : σ → ProdM → σ) (s0 : σ) (l : List ProdM) (j : Nat) (x : ProdM) (h : l[j]? = some x) : (l.take (j + 1)).foldl f s0 = f ((l.take j).foldl f s0) x := by
  rw [take_snoc l j x h, List.foldl_append]; rfl

set_option maxRecDepth 100000 in
set_option maxHeartbeats 4000000 in
theorem indexSt_any {σ : Type} (K : Nat) (lb : Array Value) (eg : ∀ args w, (callFunc K args).run Tryz.prog w = .ok (.enter K args) w) (B off : Nat) (c : Nat) (l : List ProdM) (q : ProdM → Bool) (f : σ → ProdM → σ) (Inv : σ → World → Prop)
    (D : DelBy K lb B off l q f Inv) (hn : l.length ≤ 1048576) (cs : Array Value) (w : World) (hb : Blk w B 65 cs) (hr : PRow cs off l 0) (s0 : σ) (h0 : Inv s0 w) :
    Calls Tryz.prog 133 #[.slice (some ⟨B, off, none⟩) l.length c, .func (.func K) #[] lb] w fun e w' => ∃ m : Nat, m ≤ l.length ∧ e = .returned (.int .i64 (if m = l.length then -1 else (m : Int))) ∧ Inv ((l.take (m + 1)).foldl f s0) w' ∧ Blk w' B 65 cs ∧
      (∀ i x, i < m → l[i]? = some x → q x = false) ∧ (∀ x, l[m]? = some x → q x = true) := by
  have HD := Lib.hid D
  have HR := Lib.hid hr
  have H0 := Lib.hid (And.intro h0 hb)
  obtain ⟨n, hln⟩ : ∃ n, n = l.length := ⟨_, rfl⟩
  rw [← hln] at hn ⊢
  have HN := Lib.hid hln
  clear hln D hr h0 hb
  go_enter Tryz.func133, Tryz.ntmps133
  go_wp2
  go_loopw [8] (fun i wr => ∃ (m : Nat), i = .int .i64 m ∧ m ≤ n ∧ Hid (Inv ((l.take m).foldl f s0) wr ∧ Blk wr B 65 cs ∧ ∀ i x, i < m → l[i]? = some x → q x = false))
    (fun i _ => n - (intOf i).toNat)
  case atStart => exact ⟨0, rfl, Nat.zero_le _, Lib.hid ⟨H0.out.1, H0.out.2, fun i x hi => by omega⟩⟩
  case round =>
    clear H0
    obtain ⟨m, rfl, hm, hS⟩ := hrel
    by_cases hlt : m < n
    · obtain ⟨x, hx⟩ : ∃ x, l[m]? = some x := ⟨_, List.getElem?_eq_getElem (by rw [← HN.out]; exact hlt)⟩
      have HX := Lib.hid hx
      have hbr := hS.out.2.1.lt
      obtain ⟨c0, c1, c2, c3, c4, c5, c6⟩ := Prod_at ((HR.out m x (Nat.zero_le _) hx).cells hS.out.2.1)
      have HC := Lib.hid (HD.out.call _ wr x (List.mem_of_getElem? hx) hS.out.1)
      have HT := Lib.hid (take_fold f s0 l m x hx)
      have HQ : Hid (q x = false → ∀ i y, i < m + 1 → l[i]? = some y → q y = false) := Lib.hid (fun h i y hi hy => by
        by_cases e : i = m
        · subst e; rw [HX.out] at hy; cases hy; exact h
        · exact hS.out.2.2 i y (by omega) hy)
      have HQ1 : Hid (∀ i y, i < m → l[i]? = some y → q y = false) := Lib.hid hS.out.2.2
      have HB := Lib.hid hS.out.2.1
      have HQX : Hid (q x = true → ∀ y, l[m]? = some y → q y = true) := Lib.hid (fun h y hy => by rw [HX.out] at hy; cases hy; exact h)
      clear hx hS
      have n1 : (m : Int) < (n : Int) := by omega
      have n0 : (0 : Int) ≤ (m : Int) := by omega
      unfold prodV prodC at HC
      generalize q x = r at *
      go_wp2_with fail
      refine HC.out.mono ?_
      rintro e w3 ⟨rfl, hi3, hk3⟩
      have HI3 := Lib.hid hi3
      have HK3 := Lib.hid (hk3 _ _ HB.out)
      clear hi3 hk3 HC c0 c1 c2 c3 c4 c5 c6 HB
      cases r with
      | true =>
        have HQX2 := Lib.hid (HQX.out rfl)
        have hne : ¬ m = n := by omega
        clear HQX HQ
        go_wp2
        go_ret
        exact ⟨m, hm, by rw [if_neg hne]; rfl, by rw [HT.out]; exact HI3.out, HK3.out, HQ1.out, HQX2.out⟩
      | false =>
        have HQ2 := Lib.hid (HQ.out rfl)
        clear HQX HQ
        go_wp2
        go_roundw
        case rel => exact ⟨m + 1, by go_num, by omega, Lib.hid ⟨by rw [HT.out]; exact HI3.out, HK3.out, HQ2.out⟩⟩
        case measure => simp [intOf]; omega
    · obtain rfl : m = n := by omega
      have HT : Hid (l.take (m + 1) = l.take m) := Lib.hid (by rw [List.take_of_length_le (by have := HN.out; omega), List.take_of_length_le (by have := HN.out; omega)])
      go_wp2
      go_ret
      exact ⟨m, Nat.le_refl _, by rw [if_pos rfl]; rfl, by rw [HT.out]; exact hS.out.1, hS.out.2.1, hS.out.2.2, fun x hx => by
        have := (List.getElem?_eq_some_iff.1 hx).1
        have := HN.out
        omega⟩

theorem PRow.lt {cs : Array Value} {off : Nat} {l : List ProdM} (h : PRow cs off l 0) {m : Nat} (hm : m < l.length) : off + m * 7 + 7 ≤ cs.size := by
  have := h m _ (Nat.zero_le _) (List.getElem?_eq_getElem hm) 6 _ rfl
  have := (Array.getElem?_eq_some_iff.1 this).1
  omega
structure DI (cs0 : Array Value) (off : Nat) (l : List ProdM) (q : ProdM → Bool) (i j : Nat) (cs : Array Value) : Prop where
  size : cs.size = cs0.size
  len : ((l.take j).filter fun x => !q x).length = i
  low : PRow cs off ((l.take j).filter fun x => !q x) 0
  high : PRow cs off l j
  lt : i < j
theorem DI.skip {cs0 : Array Value} {off : Nat} {l : List ProdM} {q : ProdM → Bool} {i j : Nat} {cs : Array Value} (h : DI cs0 off l q i j cs) {x : ProdM} (hx : l[j]? = some x) (hq : q x = true) : DI cs0 off l q i (j + 1) cs := by
  have e : (l.take (j + 1)).filter (fun x => !q x) = (l.take j).filter fun x => !q x := by
    rw [take_snoc l j x hx, List.filter_append]
    simp [hq]
  exact ⟨h.size, by rw [e]; exact h.len, by rw [e]; exact h.low, fun m y hm hy => h.high m y (by omega) hy, by have := h.lt; omega⟩
theorem DI.keep {cs0 : Array Value} {off : Nat} {l : List ProdM} {q : ProdM → Bool} {i j : Nat} {cs : Array Value} (h : DI cs0 off l q i j cs) {x : ProdM} (hx : l[j]? = some x) (hq : q x = false) (hs : off + i * 7 + 7 ≤ cs0.size) : DI cs0 off l q (i + 1) (j + 1) (putC cs (off + i * 7) (prodC x).toList) := by
  have e : (l.take (j + 1)).filter (fun x => !q x) = ((l.take j).filter fun x => !q x) ++ [x] := by
    rw [take_snoc l j x hx, List.filter_append]
    simp [hq]
  refine ⟨by rw [putC_size]; exact h.size, by rw [e, List.length_append, h.len]; rfl, ?_, fun m y hm hy => (h.high m y (by omega) hy).off (.inr ?_), by have := h.lt; omega⟩
  · rw [e]
    intro m y _ hy
    rw [List.getElem?_append] at hy
    split at hy
    · next hm => exact (h.low m y (Nat.zero_le _) hy).off (.inl (by rw [h.len] at hm; show off + m * 7 + 7 ≤ _; omega))
    · next hm =>
      have : m = i := by
        have := (List.getElem?_eq_some_iff.1 hy).1
        rw [h.len] at this hm
        simp at this
        omega
      subst this
      rw [h.len, Nat.sub_self] at hy
      cases hy
      exact CsAt.put (by show off + m * 7 + 7 ≤ _; rw [h.size]; omega)
  · show off + i * 7 + 7 ≤ _
    have := h.lt
    omega

set_option maxRecDepth 100000 in
set_option maxHeartbeats 8000000 in
theorem deleteSt_any {σ : Type} (K : Nat) (lb : Array Value) (eg : ∀ args w, (callFunc K args).run Tryz.prog w = .ok (.enter K args) w) (B off : Nat) (c : Nat) (l : List ProdM) (q : ProdM → Bool) (f : σ → ProdM → σ) (Inv : σ → World → Prop)
    (D : DelBy K lb B off l q f Inv) (hn : l.length ≤ 1048576) (hc : l.length ≤ c) (cs : Array Value) (w : World) (hb : Blk w B 65 cs) (hr : PRow cs off l 0) (s0 : σ) (h0 : Inv s0 w) :
    Calls Tryz.prog 97 #[.slice (some ⟨B, off, none⟩) l.length c, .func (.func K) #[] lb] w fun e w' => ∃ cs', e = .returned (.slice (some ⟨B, off, none⟩) (l.filter fun x => !q x).length c) ∧ Inv (l.foldl f s0) w' ∧ Blk w' B 65 cs' ∧ cs'.size = cs.size ∧ PRow cs' off (l.filter fun x => !q x) 0 := by
  have HI := Lib.hid (indexSt_any K lb eg B off c l q f Inv D hn cs w hb hr s0 h0)
  have HD := Lib.hid D
  have HR := Lib.hid hr
  obtain ⟨n, hln⟩ : ∃ n, n = l.length := ⟨_, rfl⟩
  rw [← hln] at hn hc HI ⊢
  have HN := Lib.hid hln
  clear hln D hr h0 hb
  go_enter Tryz.func97, Tryz.ntmps97
  go_wp2_with fail
  refine HI.out.mono ?_
  rintro e w1 ⟨m, hm, rfl, hi1, hb1, hq0, hq1⟩
  have HI1 := Lib.hid hi1
  have HB1 := Lib.hid hb1
  have HQ0 := Lib.hid hq0
  have HQ1 := Lib.hid hq1
  clear hi1 hb1 hq0 hq1 HI
  by_cases hmn : m = n
  · subst hmn
    have e1 : Hid (l.filter (fun x => !q x) = l) := Lib.hid (List.filter_eq_self.2 fun x hx => by
      obtain ⟨i, hi⟩ := List.mem_iff_getElem?.1 hx
      rw [HQ0.out i x (by have := (List.getElem?_eq_some_iff.1 hi).1; have := HN.out; omega) hi]; rfl)
    have e2 : Hid (l.take (m + 1) = l) := Lib.hid (List.take_of_length_le (by have := HN.out; omega))
    rw [if_pos rfl]
    go_wp2
    go_ret
    exact ⟨cs, by rw [e1.out, ← HN.out]; rfl, by have := HI1.out; rw [e2.out] at this; exact this, HB1.out, rfl, by rw [e1.out]; exact HR.out⟩
  · rw [if_neg hmn]
    have hlt : m < n := by omega
    have h1 : ((m : Int) == -1) = false := by rw [beq_eq_false_iff_ne]; omega
    have hS0 : Hid (DI cs off l q m (m + 1) cs) := Lib.hid (by
      have hml : m < l.length := by rw [← HN.out]; exact hlt
      have hx := List.getElem?_eq_getElem hml
      have e1 : (l.take m).filter (fun x => !q x) = l.take m := List.filter_eq_self.2 fun x hx => by
        obtain ⟨i, hi⟩ := List.mem_iff_getElem?.1 hx
        rw [List.getElem?_take] at hi
        split at hi
        · rw [HQ0.out i x (by assumption) hi]; rfl
        · cases hi
      have e : (l.take (m + 1)).filter (fun x => !q x) = l.take m := by
        rw [take_snoc l m _ hx, List.filter_append, e1]
        simp [HQ1.out _ hx]
      refine ⟨rfl, by rw [e, List.length_take]; omega, ?_, fun i x hi hx => HR.out i x (Nat.zero_le _) hx, by omega⟩
      rw [e]
      intro i x _ hi
      rw [List.getElem?_take] at hi
      split at hi
      · exact HR.out i x (Nat.zero_le _) hi
      · cases hi)
    clear hmn HQ0 HQ1
    go_wp2
    go_loopw [5, 6] (fun vi vj wr => ∃ (i j : Nat), vi = .int .i64 i ∧ vj = .int .i64 j ∧ j ≤ n ∧ ∃ cs', Hid (Inv ((l.take j).foldl f s0) wr ∧ Blk wr B 65 cs' ∧ DI cs off l q i j cs')) (fun _ vj _ => n - (intOf vj).toNat)
    case atStart => exact ⟨m, m + 1, rfl, by go_num, by omega, cs, Lib.hid ⟨HI1.out, HB1.out, hS0.out⟩⟩
    case round =>
      clear hS0 HI1 HB1
      obtain ⟨i, j, rfl, rfl, hj, cs', hS⟩ := hrel
      have hij := hS.out.2.2.lt
      by_cases hjn : j < n
      · obtain ⟨x, hx⟩ : ∃ x, l[j]? = some x := ⟨_, List.getElem?_eq_getElem (by rw [← HN.out]; exact hjn)⟩
        have HX := Lib.hid hx
        have hbr := hS.out.2.1.lt
        obtain ⟨c0, c1, c2, c3, c4, c5, c6⟩ := Prod_at ((hS.out.2.2.high j x (Nat.le_refl _) hx).cells hS.out.2.1)
        have HT := Lib.hid (take_fold f s0 l j x hx)
        have n1 : (j : Int) < (n : Int) := by omega
        have n0 : (0 : Int) ≤ (j : Int) := by omega
        have HC := Lib.hid (HD.out.call _ (wr.alloc (.cells (prodC x) 65)) x (List.mem_of_getElem? hx) (HD.out.grown _ _ _ hS.out.1 (World.grownBy_alloc _ _ _)))
        have HK := Lib.hid (hS.out.2.1.alloc (.cells (prodC x) 65))
        have HK1 := Lib.hid (Blk.new wr 65 (prodC x))
        have HDI := Lib.hid hS.out.2.2
        clear hx hS
        unfold prodV prodC at HC
        obtain ⟨r, hr⟩ : ∃ r, r = q x := ⟨_, rfl⟩
        have HRr := Lib.hid hr
        rw [← hr] at HC
        clear hr
        go_wp2_with fail
        refine HC.out.mono ?_
        rintro e w3 ⟨rfl, hi3, hk3⟩
        have HI3 := Lib.hid hi3
        have HK3 := Lib.hid (hk3 _ _ HK.out)
        have HK4 := Lib.hid (hk3 _ _ HK1.out)
        clear hi3 hk3 HC c0 c1 c2 c3 c4 c5 c6 HK HK1
        cases r with
        | true =>
          have HZ := Lib.hid (HDI.out.skip HX.out HRr.out.symm)
          go_wp2
          go_roundw
          case rel => exact ⟨i, j + 1, rfl, by go_num, by omega, cs', Lib.hid ⟨by rw [HT.out]; exact HI3.out, HK3.out, HZ.out⟩⟩
          case measure => simp [intOf]; omega
        | false =>
          have hin : off + i * 7 + 7 ≤ cs.size := HR.out.lt (by rw [← HN.out]; omega)
          have HZ := Lib.hid (HDI.out.keep HX.out HRr.out.symm hin)
          have HPut := Lib.hid (Blk.setCells (prodC x).toList (off + i * 7) HK3.out)
          have HG := Lib.hid (HD.out.grown _ _ _ HI3.out (grown_setCells B (prodC x).toList (off + i * 7) w3))
          have hsz := HDI.out.size
          have old : ∀ r, r < 7 → ∃ v, w3.cell? ⟨B, off + i * 7 + r, none⟩ = some v := fun r hr => ⟨_, (HK3.out.cell _).trans (Array.getElem?_eq_getElem (by omega))⟩
          obtain ⟨v0, o0⟩ := old 0 (by omega)
          obtain ⟨v1, o1⟩ := old 1 (by omega)
          obtain ⟨v2, o2⟩ := old 2 (by omega)
          obtain ⟨v3, o3⟩ := old 3 (by omega)
          obtain ⟨v4, o4⟩ := old 4 (by omega)
          obtain ⟨v5, o5⟩ := old 5 (by omega)
          obtain ⟨v6, o6⟩ := old 6 (by omega)
          rw [Nat.add_zero] at o0
          have g0 := HK3.out.frozen (off + i * 7)
          have g1 := HK3.out.frozen (off + i * 7 + 1)
          have g2 := HK3.out.frozen (off + i * 7 + 2)
          have g3 := HK3.out.frozen (off + i * 7 + 3)
          have g4 := HK3.out.frozen (off + i * 7 + 4)
          have g5 := HK3.out.frozen (off + i * 7 + 5)
          have g6 := HK3.out.frozen (off + i * 7 + 6)
          obtain ⟨c0, c1, c2, c3, c4, c5, c6⟩ := cells7 HK4.out
          have l3 := HK3.out.lt
          have l4 := HK4.out.lt
          have i1 : (i : Int) < (n : Int) := by omega
          have i0 : (0 : Int) ≤ (i : Int) := by omega
          clear old hsz HDI hin
          go_wp2
          go_roundw
          case rel => exact ⟨i + 1, j + 1, by go_num, by go_num, by omega, _, Lib.hid ⟨by rw [HT.out]; exact HG.out, HPut.out, HZ.out⟩⟩
          case measure => simp [intOf]; omega
      · obtain rfl : n = j := by omega
        have HB := Lib.hid hS.out.2.1
        have hfl : Hid (l.take n = l) := Lib.hid (List.take_of_length_le (by have := HN.out; omega))
        have HDI : Hid (DI cs off l q i n cs') := Lib.hid hS.out.2.2
        have hlast : off + (n - 1) * 7 + 7 ≤ cs'.size := by
          have := HR.out.lt (m := n - 1) (by rw [← HN.out]; omega)
          rw [HDI.out.size]; exact this
        obtain ⟨vs, hvl, hcl⟩ : ∃ vs : List Value, vs.length = (n - i) * 7 ∧ ∀ ty, (Builtin.clear_ #[23] ty #[.slice (some ⟨B, off + i * 7, none⟩) (n - i) (c - i)]).run Tryz.prog wr = .ok (.tuple #[]) (wr.setCells B (off + i * 7) vs) := by
          exact run_clear_prods wr B (off + i * 7) (n - i) (c - i) (by omega) (fun j hj => by rw [HB.out.cell, Array.getElem?_eq_getElem (by omega)]; rfl) (fun j _ => HB.out.frozen _)
        have HPut := Lib.hid (Blk.setCells vs (off + i * 7) HB.out)
        have HG := Lib.hid (HD.out.grown _ _ _ hS.out.1 (grown_setCells B vs (off + i * 7) wr))
        have HL : Hid (PRow (putC cs' (off + i * 7) vs) off (l.filter fun x => !q x) 0) := Lib.hid (fun m x hm hx => by
          have e := HDI.out.len
          have lo := HDI.out.low
          rw [hfl.out] at e lo
          refine (lo m x hm hx).off (.inl ?_)
          have := (List.getElem?_eq_some_iff.1 hx).1
          show off + m * 7 + 7 ≤ _
          omega)
        have HE : Hid ((l.filter fun x => !q x).length = i) := Lib.hid (by have e := HDI.out.len; rw [hfl.out] at e; exact e)
        have hlb := HB.out.lt
        have i1 : (i : Int) ≤ (n : Int) := by omega
        have i2 : (i : Int) ≤ (c : Int) := by omega
        have i0 : (0 : Int) ≤ (i : Int) := by omega
        have i3 : ¬ i = c := by omega
        clear hS hvl hlast
        go_wp2
        go_ret
        exact ⟨_, by rw [HE.out]; rfl, by rw [hfl.out] at HG; exact HG.out, HPut.out, by rw [putC_size]; exact HDI.out.size, HL.out⟩
end Go.Proofs.YtodnlcbnbkkanaaGreatDoor
end
section
namespace Go.Proofs.YtodnlcbnbkkanaaGreatDoor
open Go Go.RowKit

structure OwnP (N : Nat) (w : World) (a : Option Addr) (c : Nat) (l : List ProdM) : Prop where
  row : (a = none ∧ l = []) ∨ ∃ B cs, a = some ⟨B, 0, none⟩ ∧ N ≤ B ∧ Blk w B 65 cs ∧ PRow cs 0 l 0
  cap : l.length ≤ c
theorem OwnP.rowProd {N : Nat} {w : World} {a : Option Addr} {c : Nat} {l : List ProdM} (h : OwnP N w a c l) (hin : ∀ x, x ∈ l → ProdIn w x) : RowProd w a l := by
  rcases h.row with ⟨_, rfl⟩ | ⟨B, cs, rfl, _, hb, hr⟩
  · exact RowOf.nil _
  · intro i x hx
    exact ⟨B, 0, rfl, hb.lt, by have := (hr i x (Nat.zero_le _) hx).cells hb; exact this, hin x (List.mem_of_getElem? hx)⟩
theorem OwnP.below {N M : Nat} {w W : World} {a : Option Addr} {c : Nat} {l : List ProdM} (h : OwnP N w a c l) (hB : Below M w W) (hM : w.heap.size ≤ M) : OwnP N W a c l := by
  refine ⟨?_, h.cap⟩
  rcases h.row with h | ⟨B, cs, h1, h2, hb, hr⟩
  · exact .inl h
  · exact .inr ⟨B, cs, h1, h2, hb.below hB (Nat.lt_of_lt_of_le hb.lt hM), hr⟩

set_option maxRecDepth 100000 in
set_option maxHeartbeats 2000000 in
theorem clone_any (a : Option Addr) (c : Nat) (l : List ProdM) (w : World) (hl : RowProd w a l) (hn : l.length ≤ 1000000) :
    Calls Tryz.prog 98 #[.slice a l.length c] w fun e w' => ∃ a' c', e = .returned (.slice a' l.length c') ∧ OwnP w.heap.size w' a' c' l ∧ Below w.heap.size w w' := by
  cases a with
  | none =>
    have e0 : l = [] := by
      cases l with
      | nil => rfl
      | cons y r => obtain ⟨_, _, e, _⟩ := hl 0 y rfl; cases e
    subst e0
    have he : ∀ w, (binOp BinOp.eql 23 (.slice none 0 c) (.slice none 0 0)).run Tryz.prog w = .ok (.bool true) w := fun _ => by first | kernel_rfl | rfl
    show Calls Tryz.prog 98 #[.slice none 0 c] w _
    go_enter Tryz.func98, Tryz.ntmps98
    go_wp2
    go_ret
    exact ⟨none, 0, rfl, ⟨.inl ⟨rfl, rfl⟩, Nat.le_refl _⟩, Below.refl _ _⟩
  | some p =>
    obtain ⟨i65, ti65, tz65, ts65, tb65⟩ := info_parts Tryz.info65
    have HL := Lib.hid hl
    have HB := Lib.hid (Below.refl w.heap.size w)
    clear hl
    generalize hm : l.length = m at *
    have he : ∀ w, (binOp BinOp.eql 23 (.slice (some p) m c) (.slice none 0 0)).run Tryz.prog w = .ok (.bool false) w := fun _ => by first | kernel_rfl | rfl
    have HM := Lib.hid hm
    clear hm
    have hown : (w.alloc (.cells #[] 65)).ownsRow w.heap.size 65 7 (.slice (some ⟨w.heap.size, 0, none⟩) 0 0) 0 [] := ⟨rfl, .inr ⟨w.heap.size, 0, #[], rfl, Nat.le_refl _, Blk.new w 65 #[], Nat.le_refl _, Nat.zero_le _, rfl, rfl⟩⟩
    have HOw := Lib.hid hown
    clear hown
    have hb1 : Below w.heap.size w (w.alloc (.cells #[] 65)) := (Below.refl _ _).alloc (Nat.le_refl _) _
    have HB1 := Lib.hid hb1
    clear hb1
    go_enter Tryz.func98, Tryz.ntmps98
    go_wp2_with (at_builtin; (refine wpList_append_row rfl (.tmp 5) (.tmp 6) 23 rfl w.heap.size 65 i65 _ 7 72 Tryz.underlying23 ti65 tz65 ts65 tb65 rfl (by omega) _ 0 [] rfl HOw.out (some p) c l (by rw [HM.out]; rfl) (HL.out.below HB1.out) (fun _ => rfl) (fun x u hu => ?_) (fun h => by cases h) ?_ ?_ (by simp) (fun v' w' h1 h2 => ?_)))
    · simp [prodC] at hu
      rcases hu with rfl | rfl | rfl | rfl | rfl | rfl | rfl <;> rfl
    · rw [HM.out]; unfold maxLen; omega
    · rw [HM.out]; omega
    · rw [Nat.zero_add, List.nil_append] at h1
      have hB : Below w.heap.size w w' := own_fin HOw.out HB1.out (by simp) h2
      obtain ⟨a', c', rfl, _, _⟩ := own_slice h1
      have HO := Lib.hid h1
      have HBw := Lib.hid hB
      clear h1 h2 hB
      go_wp2
      go_ret
      refine ⟨a', c', by rw [HM.out]; rfl, ?_, HBw.out⟩
      have h1 := HO.out
      refine ⟨?_, ?_⟩
      · rcases h1.2 with ⟨h, h0⟩ | ⟨g, cap, cur, h, hg, hk, hcap, _, hs, ht⟩
        · simp only [Value.slice.injEq] at h
          exact .inl ⟨h.1, List.length_eq_zero_iff.1 h0⟩
        · cases h
          refine .inr ⟨g, cur, rfl, hg, hk, fun k x _ hx j v hj => ?_⟩
          have hj7 : j < 7 := by have := (Array.getElem?_eq_some_iff.1 hj).1; exact this
          have hkl := (List.getElem?_eq_some_iff.1 hx).1
          have e := cellsL_at (cs := prodC) (k := 7) (fun _ => rfl) l k x hx j hj7
          rw [← ht, List.getElem?_take_of_lt (by omega), Array.getElem?_toList] at e
          rw [Nat.zero_add, e]; exact hj
      · rcases h1.2 with ⟨h, h0⟩ | ⟨g, cap, cur, h, hg, hk, hcap, _, hs, ht⟩
        · omega
        · cases h; exact hcap

theorem below_grown {N : Nat} {w W W' : World} {B : Nat} (h : Below N w W) (hg : W.grownBy W' (some B)) (hN : N ≤ w.heap.size) (hB : N ≤ B) : Below N w W' :=
  h.grown hg (Nat.le_trans hN h.size) fun j e => by cases e; exact hB

set_option maxRecDepth 100000 in
set_option maxHeartbeats 2000000 in
theorem delete_any (K : Nat) (lb : Array Value) (eg : ∀ args w, (callFunc K args).run Tryz.prog w = .ok (.enter K args) w) (a : Option Addr) (c : Nat) (l : List ProdM) (q : ProdM → Bool) (N : Nat) (w : World) (hN : N ≤ w.heap.size)
    (H : ∀ x, x ∈ l → ∀ W, Below N w W → Calls Tryz.prog K (#[prodV x] ++ lb) W fun e w' => e = .returned (.bool (q x)) ∧ Below W.heap.size W w') (hn : l.length ≤ 1048576) (ho : OwnP N w a c l) :
    Calls Tryz.prog 97 #[.slice a l.length c, .func (.func K) #[] lb] w fun e w' => e = .returned (.slice a (l.filter fun x => !q x).length c) ∧ OwnP N w' a c (l.filter fun x => !q x) ∧ Below N w w' := by
  rcases ho.row with ⟨rfl, rfl⟩ | ⟨B, cs, rfl, hB, hb, hr⟩
  · show Calls Tryz.prog 97 #[.slice none 0 c, .func (.func K) #[] lb] w _
    have hI : Calls Tryz.prog 133 #[.slice none 0 c, .func (.func K) #[] lb] w fun e w' => e = .returned (.int .i64 (-1)) ∧ w' = w := by
      clear H ho hn hN
      go_enter Tryz.func133, Tryz.ntmps133
      go_wp2
      go_loop [8] (fun i => i = .int .i64 0) (fun _ => 0)
      case atStart => rfl
      case round =>
        subst hrel
        go_wp2
        go_ret
        exact ⟨rfl, rfl⟩
    have HI := Lib.hid hI
    have HO : Hid (OwnP N w none c []) := Lib.hid ho
    clear H ho hI hn hN
    go_enter Tryz.func97, Tryz.ntmps97
    go_wp2_with fail
    refine HI.out.mono ?_
    rintro e w1 ⟨rfl, rfl⟩
    go_wp2
    go_ret
    exact ⟨rfl, HO.out, Below.refl _ _⟩
  · have D : DelBy (σ := Unit) K lb B 0 l q (fun s _ => s) (fun _ W => Below N w W) := ⟨fun _ W p hp hW => (H p hp W hW).mono fun e w' h => ⟨h.1, hW.trans (h.2.mono (Nat.le_trans hN hW.size)), fun b cs hb => hb.below h.2 hb.lt⟩, fun _ W W' hW hg => below_grown hW hg hN hB⟩
    refine (deleteSt_any K lb eg B 0 c l q _ _ D hn ho.cap cs w hb hr () (Below.refl _ _)).mono ?_
    rintro e w' ⟨cs', h1, h2, h3, h4, h5⟩
    exact ⟨h1, ⟨.inr ⟨B, cs', rfl, hB, h3, h5⟩, Nat.le_trans (List.length_filter_le _ _) ho.cap⟩, h2⟩

def mkL (g : GramM) : List ProdM := g.prods.filter fun x => !(x.role == 11)
theorem mkL_mem {g : GramM} {x : ProdM} : x ∈ mkL g ↔ x ∈ g.prods ∧ treeP x := by
  unfold mkL
  rw [List.mem_filter]
  simp
theorem mkL_len (g : GramM) : (mkL g).length ≤ g.prods.length := List.length_filter_le _ _

set_option maxRecDepth 100000 in
set_option maxHeartbeats 2000000 in
theorem making_any (g : GramM) (hm : MayB g) (w : World) (hg : GIn w g) :
    Calls Tryz.prog 68 #[gramV g] w fun e w' => ∃ a c, e = .returned (.slice a (mkL g).length c) ∧ OwnP w.heap.size w' a c (mkL g) ∧ Below w.heap.size w w' := by
  have hB1 : Below w.heap.size w (w.alloc (.cells (gramC g) 27)) := (Below.refl _ _).alloc (Nat.le_refl _) _
  have HC := Lib.hid (clone_any g.pa g.pc g.prods _ (hg.prods.below hB1) (Nat.le_trans hm.prods (by omega)))
  have HB := Lib.hid hB1
  have HN : Hid (g.prods.length ≤ 1048576) := Lib.hid (Nat.le_trans hm.prods (by omega))
  obtain ⟨n, hn⟩ : ∃ n, n = g.prods.length := ⟨_, rfl⟩
  rw [← hn] at HC
  have Hn := Lib.hid hn
  unfold gramV gramC at *
  rw [← hn] at HC HB ⊢
  clear hB1 hg hm hn
  go_enter Tryz.func68, Tryz.ntmps68
  go_wp2_with fail
  refine HC.out.mono ?_
  rintro e w3 ⟨a', c', rfl, hO, hB3⟩
  have hD := delete_any 99 #[] (fun _ _ => by kernel_rfl) a' c' g.prods (fun x => x.role == 11) w.heap.size w3 (Nat.le_trans HB.out.size hB3.size) (fun x _ W _ => making1_any x W) HN.out ⟨by
    rcases hO.row with h | ⟨B, cs, h1, h2, h3⟩
    · exact .inl h
    · exact .inr ⟨B, cs, h1, Nat.le_trans HB.out.size h2, h3⟩, hO.cap⟩
  rw [← Hn.out] at hD
  have HD := Lib.hid hD
  have HB3 := Lib.hid (HB.out.trans (hB3.mono HB.out.size))
  clear hD hO hB3
  go_wp2_with fail
  refine HD.out.mono ?_
  rintro e w4 ⟨rfl, hO4, hB4⟩
  have HO4 := Lib.hid hO4
  have HB4 := Lib.hid (HB3.out.trans hB4)
  clear hO4 hB4
  go_wp2
  go_ret
  exact ⟨a', c', rfl, HO4.out, HB4.out⟩
end Go.Proofs.YtodnlcbnbkkanaaGreatDoor
end
section
namespace Go.Proofs.YtodnlcbnbkkanaaGreatDoor
open Go Go.RowKit

def symEq (x y : SymM) : Bool := x.kind == y.kind && (x.set == y.set && x.sort == y.sort)
def folEq (x y : FolM) : Bool := x.sort == y.sort && x.not == y.not

theorem eq_set' (n : Nat) (s t : BS) (w : World) : (Op.equalIn (n + 2) 47 (.agg #[.int .u64 (wdI s 0), .int .u64 (wdI s 1), .int .u64 (wdI s 2), .int .u64 (wdI s 3)]) (.agg #[.int .u64 (wdI t 0), .int .u64 (wdI t 1), .int .u64 (wdI t 2), .int .u64 (wdI t 3)])).run Tryz.prog w = .ok (s == t) w := by
  rw [← vset_beq]; exact eq_words n _ _ _ _ _ _ _ _ w

end Go.Proofs.YtodnlcbnbkkanaaGreatDoor
end
section
namespace Go.Proofs.YtodnlcbnbkkanaaGreatDoor
open Go Go.RowKit

def eqL {α : Type} (q : α → α → Bool) : List α → List α → Bool
  | [], [] => true
  | x :: l, y :: r => q x y && eqL q l r
  | _, _ => false
end Go.Proofs.YtodnlcbnbkkanaaGreatDoor
end
section
namespace Go.Proofs.YtodnlcbnbkkanaaGreatDoor
open Go Go.RowKit
end Go.Proofs.YtodnlcbnbkkanaaGreatDoor
end
section
namespace Go.Proofs.YtodnlcbnbkkanaaGreatDoor
open Go Go.RowKit

def prodEq (p q : ProdM) : Bool := p.left == q.left && (eqL symEq p.right q.right && (p.cons.toList == q.cons.toList && (p.role == q.role && (p.prefer == q.prefer && (p.avoid == q.avoid && p.frm == q.frm)))))

theorem cells7g {W : World} {B t : Nat} {a b c d e f g : Value} (h : Blk W B t #[a, b, c, d, e, f, g]) : W.cell? ⟨B, 0, none⟩ = some a ∧ W.cell? ⟨B, 1, none⟩ = some b ∧ W.cell? ⟨B, 2, none⟩ = some c ∧ W.cell? ⟨B, 3, none⟩ = some d ∧ W.cell? ⟨B, 4, none⟩ = some e ∧ W.cell? ⟨B, 5, none⟩ = some f ∧ W.cell? ⟨B, 6, none⟩ = some g :=
  ⟨h.cell 0, h.cell 1, h.cell 2, h.cell 3, h.cell 4, h.cell 5, h.cell 6⟩
end Go.Proofs.YtodnlcbnbkkanaaGreatDoor
end
section
namespace Go.Proofs.YtodnlcbnbkkanaaGreatDoor
open Go Go.RowKit
end Go.Proofs.YtodnlcbnbkkanaaGreatDoor
end
section
namespace Go.Proofs.YtodnlcbnbkkanaaGreatDoor
open Go Go.RowKit

def sameG (a b : GramM) : Bool := eqL strEq a.sorts b.sorts && (eqL prodEq a.prods b.prods && (a.start == b.start && (eqL forEq a.forbid b.forbid && eqL folEq a.follow b.follow)))
end Go.Proofs.YtodnlcbnbkkanaaGreatDoor
end
section
namespace Go.Proofs.YtodnlcbnbkkanaaGreatDoor
open Go Go.RowKit

end Go.Proofs.YtodnlcbnbkkanaaGreatDoor
end
section
namespace Go.Proofs.YtodnlcbnbkkanaaGreatDoor
open Go Go.RowKit

def nestB : Nat → TreeM → Bool
  | 0, _ => false
  | d + 1, .node _ _ _ _ kids => kids.all (nestB d)
def TFit : Nat → TreeM → Prop
  | 0, _ => True
  | d + 1, .node _ b _ _ kids => kids.length ≤ 1048576 ∧ (∃ n : Nat, b = n ∧ n < 256) ∧ ∀ k, k ∈ kids → TFit d k

end Go.Proofs.YtodnlcbnbkkanaaGreatDoor
end
