import Derived.RangeFuncLeaves
import Derived.RangeFuncKeeps
import Derived.RangeFuncWrites
import Derived.RangeFuncNested
import Derived.Shelf.Abstract
import Derived.Shelf.RegionOpen
import Derived.OwnWalkIn
import Derived.TacticsInMore
import Derived.LoopNIn
import Derived.LoopIn
import Derived.RangeFuncBox
import Derived.Maps.OwnIn
import Derived.StringKeys
import Derived.Lib.OwnKind
import Derived.Deep.AppendLies
import Derived.Maps.AppendAt
import Derived.OrdersHeld
import Derived.Deep.RegionHeld3
import Derived.IntWalk
import Derived.Test.YtodnlcbnbkkanaaGreatDoorM1
section
namespace Go.Proofs.YtodnlcbnbkkanaaGreatDoor
open Go Go.RowKit

set_option maxRecDepth 100000 in
set_option maxHeartbeats 1000000 in
theorem notStr_any (x : ByteArray) (p : Bool) (K : Nat) (lb : Array Value) (eg : ∀ args w, (callFunc K args).run Tryz.prog w = .ok (.enter K args) w) (B : Nat) (w : World) (hb : w.cell? ⟨B, 0, none⟩ = some (.func (.func K) #[] lb))
    (H : ∀ W, Below w.heap.size w W → Calls Tryz.prog K (#[strV x] ++ lb) W fun e w' => e = .returned (.bool p) ∧ Below W.heap.size W w') :
    Calls Tryz.prog 146 #[strV x, .pointer (some ⟨B, 0, none⟩)] w fun e w' => e = .returned (.bool (!p)) ∧ Below w.heap.size w w' := by
  have hB := lt_of_cell hb
  have HH := Lib.hid H
  clear H
  unfold strV at *
  go_enter Tryz.func146, Tryz.ntmps146
  go_wp2_with (refine (HH.out _ ?_).mono ?_)
  · exact (Below.refl _ _)
  rintro e w' ⟨rfl, hB2⟩
  go_wp2
  go_ret
  exact ⟨rfl, (Below.refl _ _).trans (hB2.mono (by simp))⟩

set_option maxRecDepth 100000 in
set_option maxHeartbeats 4000000 in
theorem indexStr_any (a : Option Addr) (c : Nat) (l : List ByteArray) (q : ByteArray → Bool) (K : Nat) (lb : Array Value) (eg : ∀ args w, (callFunc K args).run Tryz.prog w = .ok (.enter K args) w) (w : World)
    (hl : RowStr w a l) (hn : l.length ≤ 1048576) (H : Says strV q l K lb w) :
    Calls Tryz.prog 163 #[.slice a l.length c, .func (.func K) #[] lb] w fun e w' => e = .returned (.int .i64 (firstI q l)) ∧ Below w.heap.size w w' := by
  have HL := Lib.hid hl
  have HH := Lib.hid H
  clear hl H
  obtain ⟨n, hln⟩ : ∃ n, n = l.length := ⟨_, rfl⟩
  rw [← hln] at hn ⊢
  have HN := Lib.hid hln
  clear hln
  go_enter Tryz.func163, Tryz.ntmps163
  go_wp2
  go_loopw [8] (fun i wr => ∃ (m : Nat), i = .int .i64 m ∧ m ≤ n ∧ Hid (∀ (j : Nat) y, j < m → l[j]? = some y → q y = false) ∧ Hid (Below w.heap.size w wr))
    (fun i _ => n - (intOf i).toNat)
  case atStart => exact ⟨0, rfl, Nat.zero_le _, Lib.hid (fun j y hj => by omega), Below.refl _ _⟩
  case round =>
    obtain ⟨m, rfl, hm, hS, hB⟩ := hrel
    by_cases hlt : m < n
    · have HX : Hid (∃ x, l[m]? = some x) := Lib.hid ⟨_, List.getElem?_eq_getElem (by rw [← HN.out]; exact hlt)⟩
      obtain ⟨x, hx⟩ := HX.out
      have HX := Lib.hid hx
      clear hx
      obtain ⟨b, off, rfl, hbw, hc, _⟩ := HL.out m x HX.out
      have hc := hc.below hB.out hbw
      have hbr := Nat.lt_of_lt_of_le hbw hB.out.size
      have c0 := Str_at hc
      rw [Nat.mul_one] at c0
      clear hc
      have HC := Lib.hid (HH.out x (List.mem_of_getElem? HX.out) wr hB.out)
      have HQ : Hid (∀ r, q x = r → r = false → ∀ (j : Nat) y, j < m + 1 → l[j]? = some y → q y = false) := Lib.hid (fun r hr hf j y hj hy => by
        by_cases e : j = m
        · subst e
          rw [HX.out] at hy
          cases hy
          rw [hr, hf]
        · exact hS.out j y (by omega) hy)
      have HT : Hid (q x = true → firstI q l = m) := Lib.hid (fun h => firstI_hit q l m x HX.out h hS.out)
      generalize q x = r at HC HQ HT
      clear HX hS HH HL
      unfold strV at *
      have n1 : (m : Int) < (n : Int) := by omega
      cases r with
      | true =>
        have HT2 := Lib.hid (HT.out rfl)
        clear HQ HT
        go_wp2_with fail
        refine HC.out.mono ?_
        rintro e w3 ⟨rfl, hB3⟩
        have HB3 := Lib.hid (hB.out.trans (hB3.mono hB.out.size))
        clear hB3
        go_wp2
        go_ret
        exact ⟨by rw [HT2.out]; rfl, HB3.out⟩
      | false =>
        have HQ2 := Lib.hid (HQ.out false rfl rfl)
        clear HT HQ
        go_wp2_with fail
        refine HC.out.mono ?_
        rintro e w3 ⟨rfl, hB3⟩
        have HB3 := Lib.hid (hB.out.trans (hB3.mono hB.out.size))
        clear hB3
        go_wp2
        go_roundw
        case rel => exact ⟨m + 1, by go_num, by omega, HQ2, HB3⟩
        case measure => simp [intOf]; omega
    · obtain rfl : m = n := by omega
      have HT := Lib.hid (firstI_none q l (fun j y hy => hS.out j y (by have := (List.getElem?_eq_some_iff.1 hy).1; have := HN.out; omega) hy))
      clear hS
      go_wp2
      go_ret
      exact ⟨by rw [HT.out]; rfl, hB.out⟩

set_option maxRecDepth 100000 in
set_option maxHeartbeats 1000000 in
theorem containsStr_any (a : Option Addr) (c : Nat) (l : List ByteArray) (q : ByteArray → Bool) (K : Nat) (lb : Array Value) (eg : ∀ args w, (callFunc K args).run Tryz.prog w = .ok (.enter K args) w) (w : World)
    (hl : RowStr w a l) (hn : l.length ≤ 1048576) (H : Says strV q l K lb w) :
    Calls Tryz.prog 145 #[.slice a l.length c, .func (.func K) #[] lb] w fun e w' => e = .returned (.bool (l.any q)) ∧ Below w.heap.size w w' := by
  have HC := Lib.hid (indexStr_any a c l q K lb eg w hl hn H)
  have HI := firstI_any q l
  obtain ⟨i, hi⟩ : ∃ i, i = firstI q l := ⟨_, rfl⟩
  rw [← hi] at HC HI
  clear hi hl H
  generalize l.any q = r at HI ⊢
  generalize l.length = n at *
  go_enter Tryz.func145, Tryz.ntmps145
  go_wp2_with fail
  refine HC.out.mono ?_
  rintro e w3 ⟨rfl, hB3⟩
  go_wp2
  go_ret
  exact ⟨rfl, hB3⟩

set_option maxRecDepth 100000 in
set_option maxHeartbeats 1000000 in
theorem allStr_any (a : Option Addr) (c : Nat) (l : List ByteArray) (p : ByteArray → Bool) (K : Nat) (lb : Array Value) (eg : ∀ args w, (callFunc K args).run Tryz.prog w = .ok (.enter K args) w) (w : World)
    (hl : RowStr w a l) (hn : l.length ≤ 1048576) (H : Says strV p l K lb w) :
    Calls Tryz.prog 122 #[.slice a l.length c, .func (.func K) #[] lb] w fun e w' => e = .returned (.bool (l.all p)) ∧ Below w.heap.size w w' := by
  have hB1 : Below w.heap.size w (w.alloc (.cells #[.func (.func K) #[] lb] 168)) := (Below.refl _ _).alloc (Nat.le_refl _) _
  have HC := Lib.hid (containsStr_any a c l (fun x => !p x) 146 #[.pointer (some ⟨w.heap.size, 0, none⟩)] (fun _ _ => by kernel_rfl) (w.alloc (.cells #[.func (.func K) #[] lb] 168)) (RowOf.belowN hl hB1) hn (fun x hx W hW =>
    notStr_any x (p x) K lb eg _ W (by have hb := Blk.new w 168 #[.func (.func K) #[] lb]; exact (hb.below hW hb.lt).cell 0) (fun V hV => H x hx V (hB1.trans ((hW.trans (hV.mono hW.size)).mono (by simp))))))
  have HA := any_not p l
  have HB := Lib.hid hB1
  clear hl H hB1
  generalize l.any (fun x => !p x) = r at HC HA
  rw [← HA]
  clear HA
  generalize l.length = n at *
  go_enter Tryz.func122, Tryz.ntmps122
  go_wp2_with fail
  refine HC.out.mono ?_
  rintro e w3 ⟨rfl, hB3⟩
  go_wp2
  go_ret
  exact ⟨rfl, HB.out.trans (hB3.mono HB.out.size)⟩
end Go.Proofs.YtodnlcbnbkkanaaGreatDoor
end
section
namespace Go.Proofs.YtodnlcbnbkkanaaGreatDoor
open Go Go.RowKit

/-- May something be forbidden? -/
def forbidB (g : GramM) (f : ForM) : Bool := numB f.parent g.prods.length && (numB f.child g.prods.length && (match g.prods[f.parent.toNat]?, g.prods[f.child.toNat]? with | some p, some c => standB p f.at_ c | _, _ => false))

theorem numB_nat {n : Int} {m : Nat} (h : numB n m = true) : ∃ k : Nat, n = k ∧ k < m := by
  unfold numB at h
  simp at h
  exact ⟨n.toNat, by omega, by omega⟩

theorem Blk.for {w : World} {B : Nat} {f : ForM} (h : Blk w B 85 (forC f)) : w.cell? ⟨B, 0, none⟩ = some (.int .i64 f.parent) ∧ w.cell? ⟨B, 1, none⟩ = some (.int .i64 f.at_) ∧ w.cell? ⟨B, 2, none⟩ = some (.int .i64 f.child) := ⟨h.cell 0, h.cell 1, h.cell 2⟩

set_option maxRecDepth 100000 in
set_option maxHeartbeats 1000000 in
/-- forbidsMayBe's closure. -/
theorem f83_any (f : ForM) (g : GramM) (B : Nat) (w : World) (hg : GIn w g) (hf : Fit g) (hF : FitF f) (hb : Blk w B 27 (gramC g)) :
    Calls Tryz.prog 130 #[forV f, .pointer (some ⟨B, 0, none⟩)] w fun e w' => e = .returned (.bool (forbidB g f)) ∧ Below w.heap.size w w' := by
  have HB : Hid (Below w.heap.size w (w.alloc (.cells (forC f) 85))) := Lib.hid ((Below.refl _ _).alloc (Nat.le_refl _) _)
  have hlt := hb.lt
  obtain ⟨c0, c1, _, _, _⟩ := hb.gram
  have HG := Lib.hid hg
  have HF := Lib.hid hf
  have HFF := Lib.hid hF
  have HR : Hid (forbidB g f = (numB f.parent g.prods.length && (numB f.child g.prods.length && (match g.prods[f.parent.toNat]?, g.prods[f.child.toNat]? with | some p, some c => standB p f.at_ c | _, _ => false)))) := Lib.hid rfl
  have HN1 := fun w' => Lib.hid (num_any f.parent g.prods.length w')
  have HN2 := fun w' => Lib.hid (num_any f.child g.prods.length w')
  have HB1 := Lib.hid (Blk.new w 85 (forC f))
  clear hg hf hF hb
  generalize forbidB g f = q at *
  obtain ⟨fp, fa, fc⟩ := f
  unfold forV forC at *
  dsimp only at *
  cases h1 : numB fp g.prods.length with
  | false =>
    have HR2 : Hid (q = false) := Lib.hid (by rw [HR.out, h1]; rfl)
    rw [h1] at HN1
    clear HR h1 HN2 HB1
    go_enter Tryz.func130, Tryz.ntmps130
    go_wp2_with (go_at_call 90; refine (HN1 _).out.mono ?_; rintro e w3 ⟨rfl, rfl⟩)
    go_ret
    exact ⟨by rw [HR2.out]; try rfl, HB.out⟩
  | true =>
    cases h2 : numB fc g.prods.length with
    | false =>
      have HR2 : Hid (q = false) := Lib.hid (by rw [HR.out, h1, h2]; rfl)
      rw [h1] at HN1
      rw [h2] at HN2
      clear HR h1 h2 HB1
      go_enter Tryz.func130, Tryz.ntmps130
      go_wp2_with (first | (go_at_call_of 90 (fp); (with_reducible refine (HN1 _).out.mono ?_); rintro e w3 ⟨rfl, rfl⟩) | (go_at_call_of 90 (fc); (with_reducible refine (HN2 _).out.mono ?_); rintro e w3 ⟨rfl, rfl⟩))
      go_ret
      exact ⟨by rw [HR2.out]; try rfl, HB.out⟩
    | true =>
      obtain ⟨i, rfl, hi⟩ := numB_nat h1
      obtain ⟨j, rfl, hj⟩ := numB_nat h2
      obtain ⟨p, hp⟩ : ∃ p, g.prods[i]? = some p := ⟨_, List.getElem?_eq_getElem hi⟩
      obtain ⟨c, hc⟩ : ∃ c, g.prods[j]? = some c := ⟨_, List.getElem?_eq_getElem hj⟩
      have HR2 : Hid (q = standB p fa c) := Lib.hid (by rw [HR.out, h1, h2, Int.toNat_natCast, Int.toNat_natCast, hp, hc]; rfl)
      rw [h1] at HN1
      rw [h2] at HN2
      obtain ⟨b, off, hpa, hbw, hcp, hpi⟩ := HG.out.prods i p hp
      obtain ⟨b', off', hpa', hbw', hcc, _⟩ := HG.out.prods j c hc
      rw [hpa] at hpa' c1
      cases hpa'
      have hcp := hcp.below HB.out hbw
      have hcc := hcc.below HB.out hbw
      obtain ⟨p0, p1, p2, p3, p4, p5, p6⟩ := Prod_at hcp
      obtain ⟨d0, d1, d2, d3, d4, d5, d6⟩ := Prod_at hcc
      have HC := fun W (hW : Below w.heap.size w W) => standMay_any p c fa W (hpi.below hW) (HF.out.right p (List.mem_of_getElem? hp)) HFF.out.at_.1 HFF.out.at_.2
      have HC2 := fun w' (hW : Below w.heap.size w w') => Lib.hid (HC w' hW)
      have HC3 := Lib.hid HC2
      have hbw2 : b < (w.alloc (.cells #[.int .i64 i, .int .i64 fa, .int .i64 j] 85)).heap.size := by simp; omega
      have hi2 : (i : Int) < (g.prods.length : Int) := by omega
      have hj2 : (j : Int) < (g.prods.length : Int) := by omega
      obtain ⟨e0, e1, e2⟩ := Blk.for (f := ⟨i, fa, j⟩) HB1.out
      dsimp only at e0 e1 e2
      clear HR h1 h2 hcp hcc hpi HC HC2 hp hc HG HF HFF hi hj hpa
      generalize standB p fa c = r at *
      generalize g.prods.length = n at *
      unfold prodV prodC at *
      go_enter Tryz.func130, Tryz.ntmps130
      go_wp2_with (first | (go_at_call_of 90 (i); (with_reducible refine (HN1 _).out.mono ?_); rintro e w3 ⟨rfl, rfl⟩) | (go_at_call_of 90 (j); (with_reducible refine (HN2 _).out.mono ?_); rintro e w3 ⟨rfl, rfl⟩))
      refine wp_region_still_tail 14 (by kernel_rfl) (by kernel_rfl) ?_
      show wpStill _ _ (World.drew (w.alloc (.cells #[.int .i64 i, .int .i64 fa, .int .i64 j] 85))) _ _ _
      have HBd := Lib.hid HB.out.drew
      have hlB : B < (w.alloc (.cells #[.int .i64 i, .int .i64 fa, .int .i64 j] 85)).heap.size := by simp; omega
      obtain ⟨W, hW⟩ : ∃ W, W = World.drew (w.alloc (.cells #[.int .i64 i, .int .i64 fa, .int .i64 j] 85)) := ⟨_, rfl⟩
      have kW : ∀ a, W.cell? a = (w.alloc (.cells #[.int .i64 i, .int .i64 fa, .int .i64 j] 85)).cell? a := fun a => by rw [hW]; rfl
      rw [← hW] at HBd ⊢
      simp only [← kW] at p0 p1 p2 p3 p4 p5 p6 d0 d1 d2 d3 d4 d5 d6 e0 e1 e2
      have c1' := (HBd.out.cell (p := ⟨B, 1, none⟩) hlt).trans c1
      have hs : W.heap.size = w.heap.size + 1 := by rw [hW]; simp
      have hbw3 : b < W.heap.size := by omega
      have hlB : B < W.heap.size := by omega
      have HW := Lib.hid hW
      clear kW hW hbw2 c1 c0 hs
      simp only [List.take_succ_cons, List.take_zero, List.drop_succ_cons, List.drop_zero]
      repeat still_step
      refine wpStill_nil ?_
      show wpList _ _ _ _ _ (World.drew (w.alloc (.cells #[.int .i64 i, .int .i64 fa, .int .i64 j] 85)))
      rw [← HW.out]
      clear HW
      go_wp2_with fail
      with_reducible refine (HC3.out _ HBd.out).out.mono ?_
      rintro e w3 ⟨rfl, hB3⟩
      go_wp2
      go_ret
      exact ⟨by rw [HR2.out]; try rfl, HBd.out.trans (hB3.mono HBd.out.size)⟩
end Go.Proofs.YtodnlcbnbkkanaaGreatDoor
end
section
namespace Go.Proofs.YtodnlcbnbkkanaaGreatDoor
open Go Go.RowKit

/-! A range over a function whose function has memory of its own, that it writes between two rounds: what the loop's owner says hangs on blocks below the loop alone. -/

/-- All that lies at B or above lies as it lay. -/
structure KeepUp (B : Nat) (W W' : World) : Prop where
  size : W.heap.size ≤ W'.heap.size
  up : ∀ (k : Nat) (o : Obj), B ≤ k → W.heap[k]? = some o → W'.heap[k]? = some o
theorem KeepUp.refl (B : Nat) (W : World) : KeepUp B W W := ⟨Nat.le_refl _, fun _ _ _ h => h⟩
theorem KeepUp.trans {B : Nat} {X Y Z : World} (h : KeepUp B X Y) (k : KeepUp B Y Z) : KeepUp B X Z :=
  ⟨Nat.le_trans h.size k.size, fun i o hB ho => k.up i o hB (h.up i o hB ho)⟩
theorem KeepUp.mono {A B : Nat} {X Y : World} (h : KeepUp A X Y) (hAB : A ≤ B) : KeepUp B X Y := ⟨h.size, fun i o hB ho => h.up i o (by omega) ho⟩
theorem KeepUp.of_below {B n : Nat} {X Y : World} (h : Below n X Y) (hn : X.heap.size ≤ n) : KeepUp B X Y :=
  ⟨h.size, fun i o _ ho => (h.block i (by have := (Array.getElem?_eq_some_iff.1 ho).1; omega)).trans ho⟩
theorem KeepUp.put {B l : Nat} {X : World} {o : Obj} (hl : l < B) : KeepUp B X (X.putObj l o) :=
  ⟨(grownBy_putObj' _ _ _).size, fun i o' hB ho => (World.putObj_heap_other (by omega)).trans ho⟩
theorem KeepUp.set {B b i : Nat} {X : World} (hb : b < B) (v : Value) : KeepUp B X (X.setCell ⟨b, i, none⟩ v) :=
  ⟨by rw [World.size_setCell]; exact Nat.le_refl _, fun k o hk ho => (Below.heap_setCell X ⟨b, i, none⟩ v k (by show k ≠ b; omega)).trans ho⟩
theorem KeepUp.drew {B : Nat} {X Y : World} (h : KeepUp B X Y) : KeepUp B X Y.drew := ⟨h.size, h.up⟩
theorem KeepUp.setR {B b i : Nat} {X Y : World} (h : KeepUp B X Y) (hb : b < B) (v : Value) : KeepUp B X (Y.setCell ⟨b, i, none⟩ v) := h.trans (KeepUp.set hb v)
theorem putB {n D : Nat} {w W : World} {o : Obj} (h : Below n w W) (hD : n ≤ D) : Below n w (W.putObj D o) :=
  ⟨h.os, h.tape, h.output, Nat.le_trans h.size (grownBy_putObj' _ _ _).size, fun k hk => (World.putObj_heap_other (by omega)).trans (h.block k hk)⟩

/-- The iterator's word: these elements, in order, as long as it is told to go on. -/
def LowSeq {α : Type} (n : Nat) (P : Program) (g : Nat) (lb : Array Value) (encs : α → Array Value) (xs : List α) (R : World → Prop) (w : World) : Prop :=
  ∀ (l : Nat) (J Jx : List α → World → Prop) (W : World), Below w.heap.size w W → (∀ s A, J s A → R A) →
    (∀ s A B, J s A → Below W.heap.size A B → J s B) → (∀ s A B, Jx s A → Below W.heap.size A B → Jx s B) →
    (∀ pre x W1, pre ++ [x] <+: xs → J pre W1 → YieldAt Fence.wide (n - 1) P l (encs x) W1 fun e W' =>
      (e = .returned (.bool true) ∧ J (pre ++ [x]) W' ∧ KeepUp W.heap.size W1 W') ∨ (e = .returned (.bool false) ∧ Jx (pre ++ [x]) W' ∧ KeepUp W.heap.size W1 W')) →
    J [] W → CallsIn Fence.wide n P g (#[.func (.yield l) #[] #[]] ++ lb) W fun e W' => (∃ v, e = .returned v) ∧ (J xs W' ∨ ∃ pre, pre <+: xs ∧ Jx pre W')

/-- How a round's body may be left. -/
def lowPost {α : Type} (B : Nat) (I : List α → World → Prop) (Ix : Code → List α → World → Prop) (ys : List α) (W : World) : Exit → Act → World → Prop
  | .normal, _, W' => KeepUp B W W' ∧ I ys W'
  | .ret, _, W' => KeepUp B W W' ∧ Ix .ret ys W'
  | .exit id, _, W' => KeepUp B W W' ∧ Ix (.exit id) ys W'
  | .goto t, _, W' => KeepUp B W W' ∧ Ix (.goto t) ys W'
  | .panic _, _, _ => False
  | .outgrown, _, _ => False

theorem rangeFunc_low {α : Type} {P : Program} {n : Nat} {g : Operand} {ps : Array Tmp} {assign body : Code} {Q : Exit → Act → World → Prop} {a : Act} {w : World}
    (h1 : 1 ≤ n) {gf : Nat} {lb : Array Value} (hg : a.eval g = .func (.func gf) #[] lb) (eg : ∀ args w, (callFunc gf args).run P w = .ok (.enter gf args) w)
    {encs : α → Array Value} {xs : List α} {R : World → Prop} (hseq : LowSeq (n - 1) P gf lb encs xs R w) (hps : ∀ x, (encs x).size = ps.size)
    (I : List α → World → Prop) (Ix : Code → List α → World → Prop) (hI : ∀ s A B, I s A → Below w.heap.size A B → I s B) (hIx : ∀ c s A B, Ix c s A → Below w.heap.size A B → Ix c s B) (hIR : ∀ s A, I s A → R A) (h0 : I [] w)
    (hround : ∀ (l : Nat) (pre : List α) (x : α) (W : World), pre ++ [x] <+: xs → I pre W → w.heap.size + 2 ≤ W.heap.size →
      assign.wpIn (Fence.wide.inRound l) (n - 1 - 1) P (Exit.then (fun a₁ W₁ => KeepUp w.heap.size W W₁ ∧ ∀ W₂, (∃ o, W₂ = W₁.putObj (w.heap.size + 1) o) → (∃ r, W₁.heap[w.heap.size + 1]? = some (.loop r)) →
        body.wpIn (Fence.wide.inRound l) (n - 1 - 1) P (lowPost w.heap.size I Ix (pre ++ [x]) W₂) a₁ W₂) (fun _ _ _ => False))
        { tmps := (ps.zip (encs x)).foldl (fun t (p, v) => t.setIfInBounds p v) a.tmps, defers := [] } W)
    (hdone : ∀ (D : Nat) (W : World), w.heap.size ≤ D → I xs W → W.heap[D]? = some (.deferred (some [])) → Q .normal { a with defers := { target := .collected D, args := #[] } :: a.defers } W)
    (hstop : ∀ (D : Nat) (c : Code) (pre : List α) (W : World), w.heap.size ≤ D → pre <+: xs → Ix c pre W → W.heap[D]? = some (.deferred (some [])) → c.wpIn Fence.wide n P Q { a with defers := { target := .collected D, args := #[] } :: a.defers } W) :
    (Code.rangeFunc g ps assign body).wpIn Fence.wide n P Q a w := by
  refine wpIn_rangeFunc fun fn hfn => ?_
  obtain ⟨rec, hrec⟩ : ∃ rec : LoopState → Option Code → Loop, rec = fun st pe => { state := st, pending := pe, fn, tmps := a.tmps, params := ps, assign, body, defers := w.heap.size } := ⟨_, rfl⟩
  obtain ⟨W1, hW1⟩ : ∃ W1, W1 = (w.alloc (.deferred (some []))).alloc (.loop (rec .ready none)) := ⟨_, rfl⟩
  have hs1 : W1.heap.size = w.heap.size + 2 := by rw [hW1]; simp
  have hb1 : Below w.heap.size w W1 := by rw [hW1]; exact ((Below.refl _ w).alloc (Nat.le_refl _) _).alloc (by simp) _
  have hl1 : W1.heap[w.heap.size + 1]? = some (.loop (rec .ready none)) := by
    have h := World.alloc_heap_new (w.alloc (.deferred (some []))) (.loop (rec .ready none))
    rw [World.size_alloc] at h
    rw [hW1]; exact h
  have hd1 : W1.heap[w.heap.size]? = some (.deferred (some [])) := by
    rw [hW1]; exact (Below.heap_alloc _ _ _ (by simp)).trans (World.alloc_heap_new w _)
  refine ⟨w.heap.size + 1, [{ target := .collected w.heap.size, args := #[] }], W1, { target := .fn (.func gf) lb, args := #[.func (.yield (w.heap.size + 1)) #[] #[]] }, W1, gf,
    #[.func (.yield (w.heap.size + 1)) #[] #[]] ++ lb, W1, ?_, ?_, fun _ _ => trivial, ?_, fun _ => h1, ?_⟩
  · rw [hW1, hrec]; exact run_enterLoop_outer _ _ _ _ _
  · simp only [resolve, hg]
    simp [go_sem]
  · simp [invoke, go_sem, eg]
  · -- what the owner says, beside the loop's two blocks
    have hbook : ∀ {A B : World} {k : Nat} {o : Obj}, k < w.heap.size + 2 → A.heap[k]? = some o → Below W1.heap.size A B → B.heap[k]? = some o := fun hk ho hB => (hB.block _ (by omega)).trans ho
    have hput : ∀ {W : World} {s : List α} (o : Obj), I s W → I s (W.putObj (w.heap.size + 1) o) := fun {W s} o h => hI s W _ h ⟨rfl, rfl, rfl, (grownBy_putObj' _ _ _).size, fun k hk => World.putObj_heap_other (by omega)⟩
    have hputx : ∀ {W : World} {s : List α} {c : Code} (o : Obj), Ix c s W → Ix c s (W.putObj (w.heap.size + 1) o) := fun {W s c} o h => hIx c s W _ h ⟨rfl, rfl, rfl, (grownBy_putObj' _ _ _).size, fun k hk => World.putObj_heap_other (by omega)⟩
    refine (hseq (w.heap.size + 1)
      (fun pre W => I pre W ∧ W.heap[w.heap.size + 1]? = some (.loop (rec .ready none)) ∧ W.heap[w.heap.size]? = some (.deferred (some [])))
      (fun pre W => ∃ c, Ix c pre W ∧ W.heap[w.heap.size + 1]? = some (.loop (rec .done (some c))) ∧ W.heap[w.heap.size]? = some (.deferred (some [])))
      W1 hb1 (fun s A h => hIR s A h.1)
      (fun s A B h hB => ⟨hI s A B h.1 (hB.mono (by omega)), hbook (by omega) h.2.1 hB, hbook (by omega) h.2.2 hB⟩)
      (fun s A B h hB => by
        obtain ⟨c, hc, hl, hd⟩ := h
        exact ⟨c, hIx c s A B hc (hB.mono (by omega)), hbook (by omega) hl hB, hbook (by omega) hd hB⟩)
      ?_ ⟨hI [] w W1 h0 hb1, hl1, hd1⟩).mono ?_
    · rintro pre x W hpre ⟨hi, hl, hd⟩
      have hlt : w.heap.size + 1 < W.heap.size := (Array.getElem?_eq_some_iff.1 hl).1
      have hy := run_yield (P := P) (args := encs x) hl (by rw [hrec]; exact hps x)
      rw [hrec] at hy
      refine ⟨fn, _, assign, body, hy, roundIn_of_wpIn hfn (wpIn_mono (hround (w.heap.size + 1) pre x W hpre hi (by omega)) ?_)⟩
      rintro e a1 Wa hp
      cases e with
      | normal =>
        obtain ⟨hka, hbd⟩ := hp
        have hla := hka.up _ _ (by omega) hl
        have hda := hka.up _ _ (Nat.le_refl _) hd
        refine ⟨_, run_beginRound hla (by rw [hrec]), wpIn_mono (hbd _ ⟨_, rfl⟩ ⟨_, hla⟩) ?_⟩
        have hlta : w.heap.size + 1 < Wa.heap.size := (Array.getElem?_eq_some_iff.1 hla).1
        have hl2 : (Wa.putObj (w.heap.size + 1) (.loop { rec .ready none with state := .busy })).heap[w.heap.size + 1]? = some (.loop { rec .ready none with state := .busy }) := World.putObj_heap_same hlta
        have hd2 : (Wa.putObj (w.heap.size + 1) (.loop { rec .ready none with state := .busy })).heap[w.heap.size]? = some (.deferred (some [])) := (World.putObj_heap_other (by omega)).trans hda
        have hend : ∀ (jump : Option Code) (W3 : World), KeepUp w.heap.size (Wa.putObj (w.heap.size + 1) (.loop { rec .ready none with state := .busy })) W3 →
            (Instr.endRound (w.heap.size + 1) jump).run P W3 = .ok (.bool jump.isNone) (W3.putObj (w.heap.size + 1) (.loop (rec (if jump.isNone then .ready else .done) jump))) ∧
            (W3.putObj (w.heap.size + 1) (.loop (rec (if jump.isNone then .ready else .done) jump))).heap[w.heap.size + 1]? = some (.loop (rec (if jump.isNone then .ready else .done) jump)) ∧
            (W3.putObj (w.heap.size + 1) (.loop (rec (if jump.isNone then .ready else .done) jump))).heap[w.heap.size]? = some (.deferred (some [])) := fun jump W3 hk3 => by
          have hl3 := hk3.up _ _ (by omega) hl2
          have hd3 := hk3.up _ _ (Nat.le_refl _) hd2
          have he := run_endRound (P := P) jump hl3
          rw [hrec] at he ⊢
          exact ⟨he, World.putObj_heap_same (Array.getElem?_eq_some_iff.1 hl3).1, (World.putObj_heap_other (by omega)).trans hd3⟩
        rintro e2 a3 W3 hq
        cases e2 with
        | normal =>
          obtain ⟨hk3, hi3⟩ := hq
          obtain ⟨hr, hl4, hd4⟩ := hend none W3 hk3
          refine ⟨_, _, hr, .inl ⟨rfl, ⟨hput _ hi3, hl4, hd4⟩, ?_⟩⟩
          exact ((hka.mono (by omega)).trans (KeepUp.put (by omega))).trans ((hk3.mono (by omega)).trans (KeepUp.put (by omega)))
        | ret =>
          obtain ⟨hk3, hi3⟩ := hq
          obtain ⟨hr, hl4, hd4⟩ := hend (some .ret) W3 hk3
          exact ⟨_, _, hr, .inr ⟨rfl, ⟨.ret, hputx _ hi3, hl4, hd4⟩, ((hka.mono (by omega)).trans (KeepUp.put (by omega))).trans ((hk3.mono (by omega)).trans (KeepUp.put (by omega)))⟩⟩
        | exit id =>
          obtain ⟨hk3, hi3⟩ := hq
          obtain ⟨hr, hl4, hd4⟩ := hend (some (.exit id)) W3 hk3
          exact ⟨_, _, hr, .inr ⟨rfl, ⟨.exit id, hputx _ hi3, hl4, hd4⟩, ((hka.mono (by omega)).trans (KeepUp.put (by omega))).trans ((hk3.mono (by omega)).trans (KeepUp.put (by omega)))⟩⟩
        | goto t =>
          obtain ⟨hk3, hi3⟩ := hq
          obtain ⟨hr, hl4, hd4⟩ := hend (some (.goto t)) W3 hk3
          exact ⟨_, _, hr, .inr ⟨rfl, ⟨.goto t, hputx _ hi3, hl4, hd4⟩, ((hka.mono (by omega)).trans (KeepUp.put (by omega))).trans ((hk3.mono (by omega)).trans (KeepUp.put (by omega)))⟩⟩
        | panic ch => exact hq.elim
        | outgrown => exact hq.elim
      | ret => exact hp.elim
      | exit id => exact hp.elim
      | goto t => exact hp.elim
      | panic ch => exact hp.elim
      | outgrown => exact hp.elim
    · rintro e W2 ⟨⟨v, rfl⟩, (⟨hi, hl, hd⟩ | ⟨pre, hpre, c, hi, hl, hd⟩)⟩
      · have he := run_endLoop (P := P) hl (by rw [hrec]; simp)
        rw [hrec] at he
        exact ⟨none, _, he, hdone _ _ (Nat.le_refl _) (hput _ hi) ((World.putObj_heap_other (by omega)).trans hd)⟩
      · have he := run_endLoop (P := P) hl (by rw [hrec]; simp)
        rw [hrec] at he
        exact ⟨some c, _, he, hstop _ c pre _ (Nat.le_refl _) hpre (hputx _ hi) ((World.putObj_heap_other (by omega)).trans hd)⟩
end Go.Proofs.YtodnlcbnbkkanaaGreatDoor
end
section
namespace Go.Proofs.YtodnlcbnbkkanaaGreatDoor
open Go Go.RowKit Go.Shelf Go.Maps

attribute [local go_sem] Oper.semAt_some

/-- The first m names with their numbers, from the last one on. -/
def bk (l : List ByteArray) (m : Nat) : List (Nat × ByteArray) := ((l.take m).zipIdx.map fun p => (p.2, p.1)).reverse
theorem bk_succ (l : List ByteArray) (m : Nat) (x : ByteArray) (h : l[m]? = some x) : bk l (m + 1) = (m, x) :: bk l m := by
  have hm : m < l.length := (List.getElem?_eq_some_iff.1 h).1
  unfold bk
  rw [List.take_add_one, h]
  simp only [Option.toList_some, List.zipIdx_append, List.map_append, List.reverse_append, List.length_take, Nat.min_eq_left (Nat.le_of_lt hm)]
  simp
def encB (x : Nat × ByteArray) : Array Value := #[.int .i64 x.1, .string x.2]

set_option maxRecDepth 100000 in
set_option maxHeartbeats 1000000 in
theorem back_low (n : Nat) (hn : 1 ≤ n) (Bn : Nat) (a : Option Addr) (c : Nat) (l : List ByteArray) (hl : l.length ≤ 1048576) (w : World) :
    LowSeq n Tryz.prog 164 #[.pointer (some ⟨Bn, 0, none⟩)] encB (bk l l.length) (fun A => A.cell? ⟨Bn, 0, none⟩ = some (.slice a l.length c) ∧ RowStr A a l) w := by
  intro L J Jx W hW hR hJ hJx hY h0
  have HR := Lib.hid hR
  have HY := Lib.hid hY
  obtain ⟨hBn, _⟩ := hR _ _ h0
  clear hR hY hJ hJx
  refine callsIn_of_wp Tryz.func164 rfl trivial ?_ rfl
  simp only [Tryz.ntmps164, List.size_toArray, List.length_cons, List.length_nil, Nat.reduceAdd, Nat.reduceSub, Array.replicate_succ, Array.replicate_zero, List.push_toArray, List.append_toArray, List.nil_append, List.cons_append]
  gi_wp2
  gi_loopw [3] (fun p wr => ∃ (pre : List (Nat × ByteArray)) (m : Nat) (z : Int), p = .int .i64 z ∧ z + 1 = m ∧ m ≤ l.length ∧ Hid (bk l l.length = pre ++ bk l m) ∧ J pre wr)
    (fun p _ => (intOf p + 1).toNat)
  case atStart => exact ⟨[], l.length, _, rfl, by omega, Nat.le_refl _, Lib.hid rfl, h0⟩
  case round =>
    clear h0 hBn
    obtain ⟨pre, m, z, rfl, hz, hm, hx, hJs⟩ := hrel
    obtain ⟨hcell, hrow⟩ := HR.out _ _ hJs
    by_cases hneg : z < 0
    · obtain rfl : m = 0 := by omega
      have hx2 : Hid (bk l l.length = pre) := Lib.hid (by rw [hx.out]; simp [bk])
      clear hz hx hrow
      gi_wp2
      go_end0
      exact ⟨⟨_, rfl⟩, .inl (by rw [hx2.out]; exact hJs)⟩
    · obtain ⟨k, rfl⟩ := Int.eq_ofNat_of_zero_le (a := z) (by omega)
      obtain rfl : m = k + 1 := by omega
      obtain ⟨x, hxk⟩ : ∃ x, l[k]? = some x := ⟨_, List.getElem?_eq_getElem (by omega)⟩
      have hs : Hid (bk l (k + 1) = (k, x) :: bk l k) := Lib.hid (bk_succ l k x hxk)
      obtain ⟨b, off, rfl, hbw, hc, _⟩ := hrow k x hxk
      have c0 := Str_at hc
      rw [Nat.mul_one] at c0
      have hkl : (k : Int) < (l.length : Int) := by omega
      obtain ⟨fn, tmps, assign, body, hy, hRd⟩ := HY.out pre (k, x) wr (by rw [hx.out, hs.out]; exact ⟨bk l k, by simp⟩) hJs
      have HRd := Lib.hid hRd
      have hx3 : Hid (bk l l.length = (pre ++ [(k, x)]) ++ bk l k) := Lib.hid (by rw [hx.out, hs.out]; simp)
      have hk2 : k ≤ l.length := by omega
      dsimp only [encB] at hy
      clear hrow hc hs hx hxk hm hz hneg hRd
      gi_wp2
      refine HRd.out.mono ?_
      rintro e W3 (⟨rfl, hJ3, _⟩ | ⟨rfl, hJx3, _⟩)
      · gi_wp2
        go_roundw
        case rel => exact ⟨pre ++ [(k, x)], k, (k : Int) - 1, by simp, by omega, hk2, hx3, hJ3⟩
        case measure => simp [intOf]
      · gi_wp2
        refine bodyPost_ret (results_none rfl _ _ _) rfl ?_
        exact ⟨⟨_, rfl⟩, .inr ⟨_, by rw [hx3.out]; exact List.prefix_append _ _, hJx3⟩⟩

/-- The map of names to numbers behind so many of them. -/
def nameD (pre : List (Nat × ByteArray)) : DataW Unit := pre.foldl (fun D x => D.put (.string x.2.data.toList) (.lit (.int .i64 x.1))) (.map [])
theorem nameD_snoc (pre : List (Nat × ByteArray)) (x : Nat × ByteArray) : nameD (pre ++ [x]) = (nameD pre).put (.string x.2.data.toList) (.lit (.int .i64 x.1)) := by simp [nameD, List.foldl_append]
noncomputable abbrev el3 := plainElem (H := Unit) Tryz.prog 3

theorem backward_any (a : Option Addr) (n c : Nat) (w : World) : Calls Tryz.prog 147 #[.slice a n c] w fun e w' => e = .returned (.func (.func 164) #[] #[.pointer (some ⟨w.heap.size, 0, none⟩)]) ∧ w' = w.alloc (.cells #[.slice a n c] 22) := by
  go_enter Tryz.func147, Tryz.ntmps147
  go_wp2
  go_ret
  exact ⟨rfl, rfl⟩

/-- What byName's blocks hold. -/
structure NB (w : World) (a : Option Addr) (c : Nat) (l : List ByteArray) (pre : List (Nat × ByteArray)) (W : World) : Prop where
  box : Blk W (w.heap.size + 1) 169 #[.map (some w.heap.size)]
  arg : Blk W (w.heap.size + 1 + 1) 22 #[.slice a l.length c]
  own : W.ownsMap Tryz.prog 9 el3 w.heap.size pre.length (nameD pre)
  b : Below w.heap.size w W
theorem own_block {W W' : World} {b n : Nat} {D : DataW Unit} (h : W.ownsMap Tryz.prog 9 el3 b n D) (hb : W'.heap[b]? = W.heap[b]?) : W'.ownsMap Tryz.prog 9 el3 b n D := by
  obtain ⟨es, clock, e1, e2⟩ := h
  exact ⟨es, clock, hb.trans e1, e2⟩
theorem NB.low {w W W' : World} {a : Option Addr} {c : Nat} {l : List ByteArray} {pre : List (Nat × ByteArray)} (h : NB w a c l pre W) (hB : Below (w.heap.size + 3) W W') : NB w a c l pre W' :=
  ⟨h.box.below hB (by omega), h.arg.below hB (by omega), own_block h.own (hB.block _ (by omega)), h.b.trans (hB.mono (by omega))⟩

set_option maxRecDepth 100000 in
set_option maxHeartbeats 2000000 in
theorem byName_in (n : Nat) (hn : 8 ≤ n) (a : Option Addr) (c : Nat) (l : List ByteArray) (hl : l.length ≤ 1048576) (hs : ∀ s, s ∈ l → s.size ≤ 9223372036854775807) (w : World) (hrow : RowStr w a l) :
    CallsIn Fence.wide n Tryz.prog 124 #[.slice a l.length c] w fun e w' => e = .returned (.map (some w.heap.size)) ∧ w'.ownsMap Tryz.prog 9 el3 w.heap.size l.length (nameD (bk l l.length)) ∧ Below w.heap.size w w' := by
  have h1 : 1 ≤ n := by omega
  have hmm := @run_makeMap Tryz.prog
  have HS := Lib.hid hs
  have HRow := Lib.hid hrow
  clear hs hrow
  refine callsIn_of_wp_marks Tryz.func124 rfl trivial ?_ rfl
  simp only [Tryz.ntmps124, List.size_toArray, List.length_cons, List.length_nil, Nat.reduceAdd, Nat.reduceSub, Array.replicate_succ, Array.replicate_zero, List.push_toArray, List.append_toArray, List.nil_append, List.cons_append]
  gi_wp2_with (refine ⟨trivial, ?_⟩; gi_at_call 147; refine (callsIn_wide.2 (backward_any a _ c _)).mono ?_; rintro e w' ⟨rfl, rfl⟩)
  obtain ⟨W0, hW0⟩ : ∃ W0, W0 = ((w.alloc (.map #[] 0)).alloc (.cells #[.map (some w.heap.size)] 169)).alloc (.cells #[.slice a l.length c] 22) := ⟨_, rfl⟩
  have hs0 : W0.heap.size = w.heap.size + 3 := by rw [hW0]; simp
  have hI0 : NB w a c l [] W0 := by
    have k1 := Blk.new (w.alloc (.map #[] 0)) 169 #[.map (some w.heap.size)]
    have k2 := Blk.new ((w.alloc (.map #[] 0)).alloc (.cells #[.map (some w.heap.size)] 169)) 22 #[.slice a l.length c]
    simp only [World.size_alloc] at k1 k2
    rw [hW0]
    exact ⟨k1.alloc _, k2, ((World.ownsMap_made w Tryz.prog 9 el3).alloc _).alloc _, (((Below.refl _ w).alloc (Nat.le_refl _) _).alloc (by simp) _).alloc (by simp; omega) _⟩
  rw [← hW0]
  clear hW0
  have hlen : (bk l l.length).length = l.length := by simp [bk]
  refine rangeFunc_low h1 (gf := 164) (lb := #[.pointer (some ⟨w.heap.size + 1 + 1, 0, none⟩)]) rfl (enters_of Tryz.func164 (by kernel_rfl) rfl)
    (back_low (n - 1) (by omega) (w.heap.size + 1 + 1) a c l hl W0) (fun _ => rfl)
    (fun pre W => NB w a c l pre W) (fun _ _ _ => False)
    (fun t A B h hB => h.low (by rw [← hs0]; exact hB)) (fun c t A B h hB => h)
    (fun t A h => ⟨h.arg.cell 0, HRow.out.belowN h.b⟩) hI0 ?round ?done ?stop
  case round =>
    intro lp pre x W hpre hI hsz
    have hpl := hpre.length_le
    rw [List.length_append, List.length_singleton, hlen] at hpl
    obtain ⟨i, s⟩ := x
    have hmem : s ∈ l := by
      have : (i, s) ∈ bk l l.length := hpre.subset (by simp)
      unfold bk at this
      rw [List.mem_reverse, List.mem_map] at this
      obtain ⟨p, hp, e⟩ := this
      cases e
      have := List.mem_zipIdx hp
      rw [List.take_length] at hp
      obtain ⟨h1, h2⟩ := List.mem_zipIdx' hp
      rw [h2]; exact List.getElem_mem _
    have hi : i < 1048576 := by
      have : (i, s) ∈ bk l l.length := hpre.subset (by simp)
      unfold bk at this
      rw [List.mem_reverse, List.mem_map] at this
      obtain ⟨p, hp, e⟩ := this
      cases e
      rw [List.take_length] at hp
      obtain ⟨h1, h2⟩ := List.mem_zipIdx' hp
      omega
    have HK := Lib.hid (WideMaps.keyOf_string_mk Tryz.underlying9 (s := s) (by have := HS.out s hmem; unfold maxLen; omega))
    have HQ := Lib.hid (nameD_snoc pre (i, s))
    simp only [encB]
    gi_wp2
    refine ⟨KeepUp.refl _ _, ?_⟩
    intro o
    intros
    obtain ⟨W2, hW2⟩ : ∃ W2, W2 = W.putObj (w.heap.size + 3 + 1) o := ⟨_, rfl⟩
    have hI2 : NB w a c l pre W2 := hI.low (by rw [hW2]; exact putB (Below.refl _ W) (by omega))
    rw [← hW2]
    have c0 := hI2.box.cell 0
    simp only [List.getElem?_toArray, List.getElem?_cons_zero] at c0
    have hown := hI2.own
    have l3 := hI2.arg.lt
    have HI2 := Lib.hid hI2
    clear hI2 hI hI0 hW2 hmem
    gi_wp2_with (gi_at_mapUpdate; refine wpListIn_mapUpdate_own _ rfl _ _ _ 169 rfl 9 3 key9 Tryz.underlying169 el3 w.heap.size pre.length _ rfl hown (by unfold maxLen; omega) _ _ _ rfl rfl HK.out _ [] (plainElem_int Tryz.underlying3 (wf_int (n := (i : Int)) ⟨by omega, by omega⟩)) ?_; intro w1 hown1 hgrow1)
    have hb1 : ∀ k, k ≠ w.heap.size → k < W2.heap.size → w1.heap[k]? = W2.heap[k]? := fun k hk hlt => hgrow1.block k hlt (fun e => hk (by cases e; rfl))
    refine ⟨⟨hgrow1.size, fun k o hk ho => ?_⟩, ?_⟩
    · rw [hb1 k (by omega) (Array.getElem?_eq_some_iff.1 ho).1]; exact ho
    · refine ⟨(hb1 _ (by omega) (by omega)).trans HI2.out.box, (hb1 _ (by omega) (by omega)).trans HI2.out.arg, ?_, HI2.out.b.grown hgrow1 HI2.out.b.size (fun j hj => by cases hj; exact Nat.le_refl _)⟩
      rw [HQ.out, List.length_append]
      exact hown1
  case done =>
    intro D W1 hD hI1 hK1
    have c0 := hI1.box.cell 0
    simp only [List.getElem?_toArray, List.getElem?_cons_zero] at c0
    have HI1 := Lib.hid hI1
    clear hI1 hI0
    gi_wp2
    refine ⟨by simp, .inl ⟨_, _, rfl, run_takeDeferred hK1, ?_⟩⟩
    refine ⟨_, results_tmp rfl _ _ _, rfl, ?_, putB HI1.out.b (by omega)⟩
    have h := own_block HI1.out.own (W' := W1.putObj D (.deferred none)) (World.putObj_heap_other (by omega))
    rw [hlen] at h
    exact h
  case stop =>
    rintro _ _ _ _ _ _ h
    exact h.elim
end Go.Proofs.YtodnlcbnbkkanaaGreatDoor
end
section
namespace Go.Proofs.YtodnlcbnbkkanaaGreatDoor
open Go Go.RowKit Go.Maps Go.WideMaps

/-- The map of names to their first numbers. -/
def nm : Nat → List ByteArray → DataW Unit
  | _, [] => .map []
  | off, x :: r => (nm (off + 1) r).put (.string x.data.toList) (.lit (.int .i64 (off : Nat)))
theorem nm_bk (l : List ByteArray) : nameD (bk l l.length) = nm 0 l := by
  have h : ∀ (l : List ByteArray) (off : Nat), ((l.zipIdx off).map fun p => (p.2, p.1)).foldr (fun x D => D.put (.string x.2.data.toList) (.lit (.int .i64 (x.1 : Nat)))) (.map [] : DataW Unit) = nm off l := by
    intro l
    induction l with
    | nil => intro off; rfl
    | cons x r ih =>
      intro off
      rw [List.zipIdx_cons, List.map_cons, List.foldr_cons, ih]
      rfl
  unfold nameD bk
  rw [List.take_length, List.foldl_reverse, ← h l 0]
def strEq (a b : ByteArray) : Bool := a.data.toList == b.data.toList
theorem strEq_comm (a b : ByteArray) : strEq a b = strEq b a := by
  unfold strEq
  rw [Bool.eq_iff_iff, beq_iff_eq, beq_iff_eq]
  exact eq_comm
theorem nm_tidy (l : List ByteArray) (hs : ∀ s, s ∈ l → s.size ≤ 9223372036854775807) : ∀ off, Tidy (nm off l) := by
  induction l with
  | nil => intro off; exact tidy_empty
  | cons x r ih =>
    intro off
    exact (ih (fun s h => hs s (by simp [h])) (off + 1)).put (key9.key (keyOf_string_mk Tryz.underlying9 (s := x) (by have := hs x (by simp); unfold maxLen; omega))) _
theorem name_key (x : ByteArray) (h : x.size ≤ 9223372036854775807) : WideAt.IsKeyLit (.string x.data.toList) := key9.key (keyOf_string_mk Tryz.underlying9 (s := x) (by unfold maxLen; omega))
theorem nm_has (l : List ByteArray) (hs : ∀ s, s ∈ l → s.size ≤ 9223372036854775807) (k : ByteArray) : ∀ off, has (nm off l) (.string k.data.toList) = l.any (fun s => strEq s k) := by
  induction l with
  | nil => intro off; rfl
  | cons x r ih =>
    intro off
    have ih := ih (fun s h => hs s (by simp [h])) (off + 1)
    rw [List.any_cons]
    by_cases e : x.data.toList = k.data.toList
    · have : strEq x k = true := by unfold strEq; simpa using e
      rw [this, Bool.true_or, nm, e]
      rw [← e]
      exact has_put_same (nm_tidy r (fun s h => hs s (by simp [h])) _).isMap (name_key x (hs x (by simp))) _
    · have : strEq x k = false := by unfold strEq; simpa using e
      rw [this, Bool.false_or, ← ih, nm]
      exact has_put_other (fun h => e (by injection h with h; exact h.symm)) _
theorem nm_size (l : List ByteArray) (hs : ∀ s, s ∈ l → s.size ≤ 9223372036854775807) : ∀ off, size (nm off l) ≤ l.length ∧ decide (size (nm off l) = l.length) = onceA strEq [] l := by
  induction l with
  | nil => intro off; exact ⟨Nat.le_refl _, rfl⟩
  | cons x r ih =>
    intro off
    obtain ⟨i1, i2⟩ := ih (fun s h => hs s (by simp [h])) (off + 1)
    have hh := nm_has r (fun s h => hs s (by simp [h])) x (off + 1)
    have hsz : size (nm off (x :: r)) = if has (nm (off + 1) r) (.string x.data.toList) then size (nm (off + 1) r) else size (nm (off + 1) r) + 1 :=
      size_put (nm_tidy r (fun s h => hs s (by simp [h])) _) _
    rw [hh] at hsz
    rw [hsz]
    have hp : onceA strEq [] (x :: r) = (!(r.any fun s => strEq s x) && onceA strEq [] r) := by
      rw [Bool.eq_iff_iff, onceA_iff, Bool.and_eq_true, onceA_iff, List.pairwise_cons]
      simp only [List.not_mem_nil, false_imp_iff, implies_true, true_and]
      constructor
      · rintro ⟨h1, h2⟩
        refine ⟨?_, h2⟩
        have : (r.any fun s => strEq s x) = false := by
          rw [List.any_eq_false]
          intro s hs'
          rw [strEq_comm, h1 s hs']; simp
        rw [this]; rfl
      · rintro ⟨h1, h2⟩
        refine ⟨fun s hs' => ?_, h2⟩
        rw [strEq_comm]
        cases h : strEq s x
        · rfl
        · have : (r.any fun s => strEq s x) = true := List.any_eq_true.2 ⟨s, hs', h⟩
          rw [this] at h1; cases h1
    rw [hp, ← i2]
    cases hr : (r.any fun s => strEq s x)
    · refine ⟨by simpa using i1, ?_⟩
      rw [Bool.eq_iff_iff]; simp
    · refine ⟨by simpa using (by omega : size (nm (off + 1) r) ≤ r.length + 1), ?_⟩
      simp only [if_true, List.length_cons, Bool.not_true, Bool.false_and, decide_eq_false_iff_not]
      omega
/-- The number of the first sort of a name. -/
def findN (k : ByteArray) (l : List ByteArray) : Option Nat := l.findIdx? fun s => strEq s k
theorem nm_at (l : List ByteArray) (hs : ∀ s, s ∈ l → s.size ≤ 9223372036854775807) (k : ByteArray) (z : DataW Unit) : ∀ off, (nm off l).atKey (.string k.data.toList) z = match findN k l with | some i => .lit (.int .i64 ((off + i : Nat) : Int)) | none => z := by
  induction l with
  | nil => intro off; rfl
  | cons x r ih =>
    intro off
    have ih := ih (fun s h => hs s (by simp [h])) (off + 1)
    unfold findN at *
    rw [List.findIdx?_cons]
    by_cases e : x.data.toList = k.data.toList
    · have : strEq x k = true := by unfold strEq; simpa using e
      rw [this, if_pos rfl, nm, e]
      rw [← e, atKey_put_same (nm_tidy r (fun s h => hs s (by simp [h])) _).isMap (name_key x (hs x (by simp)))]
      simp
    · have : strEq x k = false := by unfold strEq; simpa using e
      rw [this, if_neg (by simp), nm, atKey_put_other (fun h => e (by injection h with h; exact h.symm)), ih]
      cases r.findIdx? (fun s => strEq s k) with
      | none => rfl
      | some i =>
        simp only [Option.map_some]
        rw [show off + 1 + i = off + (i + 1) by omega]
theorem find_any (k : ByteArray) (l : List ByteArray) : (l.any fun s => strEq s k) = (findN k l).isSome := by
  unfold findN
  rw [List.findIdx?_isSome]

theorem byName_any (a : Option Addr) (c : Nat) (l : List ByteArray) (hl : l.length ≤ 1048576) (hs : ∀ s, s ∈ l → s.size ≤ 9223372036854775807) (w : World) (hrow : RowStr w a l) :
    Calls Tryz.prog 124 #[.slice a l.length c] w fun e w' => e = .returned (.map (some w.heap.size)) ∧ w'.ownsMap Tryz.prog 9 el3 w.heap.size l.length (nm 0 l) ∧ Below w.heap.size w w' := by
  have := callsIn_wide.1 (byName_in 8 (by omega) a c l hl hs w hrow)
  rw [nm_bk] at this
  exact this
end Go.Proofs.YtodnlcbnbkkanaaGreatDoor
end
section
namespace Go.Proofs.YtodnlcbnbkkanaaGreatDoor
open Go Go.RowKit

/-- The cells of a list of things. -/
def cellsL {α : Type} (cs : α → Array Value) (l : List α) : List Value := l.flatMap fun x => (cs x).toList
theorem cellsL_snoc {α : Type} (cs : α → Array Value) (l : List α) (x : α) : cellsL cs (l ++ [x]) = cellsL cs l ++ (cs x).toList := by simp [cellsL]
theorem cellsL_length {α : Type} {cs : α → Array Value} {k : Nat} (hk : ∀ x, (cs x).size = k) (l : List α) : (cellsL cs l).length = l.length * k := by
  induction l with
  | nil => simp [cellsL]
  | cons x r ih =>
    have e : cellsL cs (x :: r) = (cs x).toList ++ cellsL cs r := by simp [cellsL]
    rw [e, List.length_append, ih, Array.length_toList, hk, List.length_cons, Nat.succ_mul]; omega
theorem cellsL_at {α : Type} {cs : α → Array Value} {k : Nat} (hk : ∀ x, (cs x).size = k) : ∀ (l : List α) (i : Nat) (x : α), l[i]? = some x → ∀ j, j < k → (cellsL cs l)[i * k + j]? = (cs x)[j]? := by
  intro l
  induction l with
  | nil => intro i x hx; simp at hx
  | cons r rs ih =>
    intro i x hx j hj
    have hc : cellsL cs (r :: rs) = (cs r).toList ++ cellsL cs rs := by simp [cellsL]
    have hr : (cs r).toList.length = k := by rw [Array.length_toList, hk]
    rw [hc]
    cases i with
    | zero =>
      simp at hx
      subst hx
      rw [Nat.zero_mul, Nat.zero_add, List.getElem?_append_left (by omega), Array.getElem?_toList]
    | succ i =>
      have h := ih i x (by simpa using hx) j hj
      rw [List.getElem?_append_right (by rw [hr, Nat.succ_mul]; omega), ← h, hr]
      congr 1
      rw [Nat.succ_mul]; omega

/-- A slice that owns its row lies as such. -/
theorem own_row {α : Type} {cs : α → Array Value} {k : Nat} {G : World → α → Prop} (hk : ∀ x, (cs x).size = k) {w : World} {n₀ e : Nat} {v : Value} {l : List α} (h : w.ownsRow n₀ e k v l.length (cellsL cs l))
    (hG : ∀ x, x ∈ l → G w x) : ∃ a cap, v = .slice a l.length cap ∧ RowOf k cs G w a l := by
  rcases h.2 with ⟨rfl, h0⟩ | ⟨g, cap, cur, rfl, _, hg, _⟩
  · have : l = [] := List.length_eq_zero_iff.1 h0
    subst this
    exact ⟨none, 0, rfl, RowOf.nil _⟩
  · refine ⟨_, cap, rfl, fun i x hx => ⟨g, 0, rfl, (Array.getElem?_eq_some_iff.1 hg).1, fun j u hj => ?_, hG x (List.mem_of_getElem? hx)⟩⟩
    have hjk : j < k := by
      have := (Array.getElem?_eq_some_iff.1 hj).1
      rw [hk] at this; exact this
    have hil : i < l.length := (List.getElem?_eq_some_iff.1 hx).1
    have hlt : i * k + j < l.length * k := by
      have : (i + 1) * k ≤ l.length * k := Nat.mul_le_mul_right k hil
      rw [Nat.succ_mul] at this; omega
    rw [Nat.zero_add]
    exact (h.cellAt (i * k + j) hlt).trans ((cellsL_at hk l i x hx j hjk).trans hj)

theorem add_off (b off j : Nat) : (⟨b, off, none⟩ : Addr).add j = ⟨b, off + j, none⟩ := by
  unfold Addr.add
  split
  · next h => rw [h]; rfl
  · rfl
/-- The cells of a new block. -/
theorem cells_new (w : World) (cs : Array Value) (t : TypeId) : ∀ j v, cs.toList[j]? = some v → (w.alloc (.cells cs t)).cell? ((⟨w.heap.size, 0, none⟩ : Addr).add j) = some v := by
  intro j v hj
  rw [add_off, Nat.zero_add, (Blk.new w t cs).cell j]
  simpa using hj

theorem own_below {w w' : World} {base : Nat} {e : TypeId} {size : Nat} {v : Value} {n : Nat} {xs : List Value} {N : Nat} (h : w.ownsRow base e size v n xs) (hB : Below N w w') (hN : w.heap.size ≤ N) : w'.ownsRow base e size v n xs := by
  refine ⟨h.1, ?_⟩
  rcases h.2 with h | ⟨g, cap, cur, h1, h2, h3, h4⟩
  · exact .inl h
  · exact .inr ⟨g, cap, cur, h1, h2, (hB.block g (Nat.lt_of_lt_of_le (Array.getElem?_eq_some_iff.1 h3).1 hN)).trans h3, h4⟩
theorem own_mono {w : World} {b b' : Nat} {e : TypeId} {size : Nat} {v : Value} {n : Nat} {xs : List Value} (h : w.ownsRow b e size v n xs) (hb : b' ≤ b) : w.ownsRow b' e size v n xs := by
  refine ⟨h.1, ?_⟩
  rcases h.2 with h1 | ⟨g, cap, cur, h1, h2, h3⟩
  · exact .inl h1
  · exact .inr ⟨g, cap, cur, h1, Nat.le_trans hb h2, h3⟩
/-- What an append to a row of the call's own leaves of the rest. -/
theorem own_fin {e size : Nat} {w w1 w' : World} {n₀ : Nat} {v : Value} {n : Nat} {xs : List Value} (hown : w1.ownsRow n₀ e size v n xs) (hB : Below n₀ w w1) (hn : n₀ ≤ w.heap.size) (hg : w1.grownBy w' v.ownBlock) : Below n₀ w w' :=
  hB.grown hg (Nat.le_trans hn hB.size) fun j ej => by
    rcases hown.2 with ⟨rfl, _⟩ | ⟨g, cap, cur, rfl, hb, _⟩
    · cases ej
    · cases ej; exact hb
end Go.Proofs.YtodnlcbnbkkanaaGreatDoor
end
section
namespace Go.Vals
open Go

/-- The values laid into an act's slots, one behind another. -/
def putL : Array Value → List (Option Tmp) → List Value → Array Value
  | s, some d :: ds, v :: vs => putL (s.setIfInBounds d v) ds vs
  | s, none :: ds, _ :: vs => putL s ds vs
  | s, _, _ => s

theorem putL_size : ∀ (ds : List (Option Tmp)) (vs : List Value) (s : Array Value), (putL s ds vs).size = s.size
  | [], _, _ => rfl
  | _ :: _, [], s => by unfold putL; split <;> simp_all
  | some d :: ds, v :: vs, s => by simp only [putL]; rw [putL_size ds vs]; simp
  | none :: ds, v :: vs, s => by simp only [putL]; rw [putL_size ds vs]

theorem putL_off {t : Tmp} : ∀ (ds : List (Option Tmp)) (vs : List Value) (s : Array Value), some t ∉ ds → (putL s ds vs)[t]? = s[t]?
  | [], _, _, _ => rfl
  | _ :: _, [], s, _ => by unfold putL; split <;> simp_all
  | some d :: ds, v :: vs, s, h => by
    simp only [putL]
    rw [putL_off ds vs _ (fun hm => h (List.mem_cons_of_mem _ hm)), Array.getElem?_setIfInBounds_ne (fun e => h (by subst e; simp))]
  | none :: ds, v :: vs, s, h => by
    simp only [putL]
    exact putL_off ds vs _ (fun hm => h (List.mem_cons_of_mem _ hm))

/-- What a region's slots hold: the loose ones meet p, the others are F's. -/
def Kn (F : Array Value) (loose : List Tmp) (p : Tmp → Value → World → Prop) (t : Tmp) (v : Value) (w : World) : Prop :=
  (t ∈ loose ∧ p t v w) ∨ (t ∉ loose ∧ F[t]? = some v)

def Knows (K : Tmp → Value → World → Prop) (l : List Tmp) (a : Act) (w : World) : Prop := ∀ t ∈ l, ∃ v, a.tmps[t]? = some v ∧ K t v w
def Puts (K : Tmp → Value → World → Prop) (o : Oper) (v : Value) (w : World) : Prop := ∀ d, o.dst = some d → K d v w

/-- What becomes of an operation: it gives a value of its kind, the worlds being related. -/
def Gives (P : Program) (N : World → World → Prop) (K : Tmp → Value → World → Prop) (o : Oper) (w : World) : Result Next → Prop
  | .ok (.value u) w' => N w w' ∧ Puts K o u w'
  | .ok (.enter f args) w' => Calls P f args w' fun e w'' => ∃ u, e = .returned u ∧ N w w'' ∧ Puts K o u w''
  | _ => False

def Does (P : Program) (ops : Array Oper) (N : World → World → Prop) (K : Tmp → Value → World → Prop) (o : Oper) (a : Act) (w : World) : Prop :=
  (Region.wanted o (yielded ops a.tmps) = false ∧ Puts K o undef w) ∨
  (Region.wanted o (yielded ops a.tmps) = true ∧ Gives P N K o w ((execOp a.eval o).run P w))

section
variable {P : Program} {ops : Array Oper} {Q : Exit → Act → World → Prop} {md : Region.Mode} {N : World → World → Prop} {K : Tmp → Value → World → Prop}

theorem Does.wpOp {i : Nat} {o : Oper} {a : Act} {w : World} (hi : ops[i]? = some o) (hr : N w w) (h : Does P ops N K o a w)
    {R : Act → World → Prop} (hR : ∀ u w', N w w' → Puts K o u w' → R (a.put o.dst u) w') : wpOp P ops Q i R a w := by
  unfold Go.wpOp
  simp only [hi]
  rcases h with ⟨hw, hp⟩ | ⟨hw, hg⟩
  · simp only [hw, Bool.false_eq_true, if_false]; exact hR _ _ hr hp
  · simp only [hw, if_true]
    refine .inl ?_
    unfold Oper.wp
    generalize (execOp a.eval o).run P w = r at hg
    unfold Gives at hg
    split at hg
    · exact hR _ _ hg.1 hg.2
    · refine Calls.mono hg fun e w'' he => ?_
      obtain ⟨u, rfl, h1, h2⟩ := he
      exact hR _ _ h1 h2
    · exact hg.elim

/-- The region's own conditions: every edge goes back; every slot is written once; what is looked at is waited for. -/
def ck (md : Region.Mode) (ops : Array Oper) (loose : List Tmp) : Bool :=
  Region.noSelect ops && (List.range ops.size).all fun j => match ops[j]? with
    | none => true
    | some o =>
      (o.after.all fun e => decide (e.on < j)) &&
      (List.range ops.size).all fun i => match ops[i]? with
        | none => true
        | some x => match x.dst with
          | none => true
          | some d => (i == j || o.dst != some d) && (!((o.looksAt ops).contains d) || o.after.any fun e => Region.binds md e && e.on == i)

theorem ck_spec {loose : List Tmp} (h : ck md ops loose = true) :
    (∀ (j : Nat) (o : Oper) cs b, ops[j]? = some o → o.op ≠ .select cs b) ∧
    (∀ (j : Nat) (o : Oper), ops[j]? = some o → ∀ e ∈ o.after, e.on < j) ∧
    (∀ (j : Nat) (o : Oper) (i : Nat) (x : Oper) (d : Tmp), ops[j]? = some o → ops[i]? = some x → x.dst = some d → i ≠ j → o.dst ≠ some d) ∧
    (∀ (j : Nat) (o : Oper) (i : Nat) (x : Oper) (d : Tmp), ops[j]? = some o → ops[i]? = some x → x.dst = some d → d ∈ o.looksAt ops → ∃ e ∈ o.after, Region.binds md e = true ∧ e.on = i) := by
  unfold ck at h
  rw [Bool.and_eq_true] at h
  obtain ⟨hs, h⟩ := h
  rw [List.all_eq_true] at h
  have hj : ∀ (j : Nat) (o : Oper), ops[j]? = some o → (∀ e ∈ o.after, e.on < j) ∧ ∀ (i : Nat) (x : Oper) (d : Tmp), ops[i]? = some x → x.dst = some d → (i ≠ j → o.dst ≠ some d) ∧ (d ∈ o.looksAt ops → ∃ e ∈ o.after, Region.binds md e = true ∧ e.on = i) := by
    intro j o ho
    have hlt : j < ops.size := (Array.getElem?_eq_some_iff.1 ho).1
    have := h j (by simpa using hlt)
    simp only [ho, Bool.and_eq_true] at this
    obtain ⟨h1, h2⟩ := this
    refine ⟨fun e he => by simpa using (Array.all_eq_true_iff_forall_mem.1 h1) e he, fun i x d hi hx => ?_⟩
    have hlt' : i < ops.size := (Array.getElem?_eq_some_iff.1 hi).1
    rw [List.all_eq_true] at h2
    have := h2 i (by simpa using hlt')
    simp only [hi, hx, Bool.and_eq_true, Bool.or_eq_true] at this
    obtain ⟨h3, h4⟩ := this
    refine ⟨fun hne => ?_, fun hm => ?_⟩
    · rcases h3 with h3 | h3
      · exact absurd (by simpa using h3) hne
      · simpa using h3
    · rcases h4 with h4 | h4
      · simp [hm] at h4
      · rw [Array.any_eq_true'] at h4
        obtain ⟨e, he, h5⟩ := h4
        rw [Bool.and_eq_true] at h5
        exact ⟨e, he, h5.1, by simpa using h5.2⟩
  exact ⟨Region.noSelect_spec hs, fun j o ho => (hj j o ho).1, fun j o i x d ho hi hx => ((hj j o ho).2 i x d hi hx).1, fun j o i x d ho hi hx => ((hj j o ho).2 i x d hi hx).2⟩

/-- No operation that has not come up writes t. -/
def Settled (ops : Array Oper) (listed : Array Bool) (t : Tmp) : Prop := ∀ (j : Nat) (o : Oper), ops[j]? = some o → o.dst = some t → listed.getD j true = true

def left (ops : Array Oper) (listed : Array Bool) : Nat := (List.range ops.size).countP fun j => !listed.getD j true

theorem countP_lt {α : Type} {p q : α → Bool} : ∀ {l : List α} {x : α}, (∀ y ∈ l, q y = true → p y = true) → x ∈ l → p x = true → q x = false → l.countP q < l.countP p
  | [], _, _, hx, _, _ => by cases hx
  | y :: l, x, h, hx, hp, hq => by
    have hle : l.countP q ≤ l.countP p := List.countP_mono_left fun z hz => h z (List.mem_cons_of_mem _ hz)
    rcases List.mem_cons.1 hx with rfl | hx
    · rw [List.countP_cons_of_pos hp, List.countP_cons_of_neg (by simp [hq])]; omega
    · have ih := countP_lt (fun z hz => h z (List.mem_cons_of_mem _ hz)) hx hp hq
      have h0 := h y List.mem_cons_self
      rw [List.countP_cons, List.countP_cons]
      cases hqy : q y
      · simp; omega
      · simp [h0 hqy]; exact ih

theorem listed_all {listed : Array Bool} (hlt : ∀ (j : Nat) (o : Oper), ops[j]? = some o → ∀ e ∈ o.after, e.on < j) (hsz : listed.size = ops.size)
    (hr : Region.ready md ops listed = []) : ∀ (j : Nat) (o : Oper), ops[j]? = some o → listed.getD j true = true := by
  intro j
  induction j using Nat.strongRecOn with
  | _ j ih =>
    intro o ho
    cases hl : listed.getD j true with
    | true => rfl
    | false =>
      have : j ∈ Region.ready md ops listed := by
        rw [mem_ready]
        refine ⟨hl, o, ho, fun e he _ => ?_⟩
        have h1 := hlt j o ho e he
        have hj : j < ops.size := (Array.getElem?_eq_some_iff.1 ho).1
        have hs : e.on < ops.size := by omega
        have := ih e.on h1 ops[e.on] (by simp [hs])
        have hs' : e.on < listed.size := by omega
        simpa [hs'] using this
      rw [hr] at this
      cases this

theorem wpAny_vals {S : World → Prop} (hsel : ∀ (j : Nat) (o : Oper) cs b, ops[j]? = some o → o.op ≠ .select cs b)
    (hlt : ∀ (j : Nat) (o : Oper), ops[j]? = some o → ∀ e ∈ o.after, e.on < j)
    (hone : ∀ (j : Nat) (o : Oper) (i : Nat) (x : Oper) (d : Tmp), ops[j]? = some o → ops[i]? = some x → x.dst = some d → i ≠ j → o.dst ≠ some d)
    (hlook : ∀ (j : Nat) (o : Oper) (i : Nat) (x : Oper) (d : Tmp), ops[j]? = some o → ops[i]? = some x → x.dst = some d → d ∈ o.looksAt ops → ∃ e ∈ o.after, Region.binds md e = true ∧ e.on = i)
    (n : Nat) (ds : List Deferred) (hin : ∀ (j : Nat) (o : Oper), ops[j]? = some o → (∀ d, o.dst = some d → d < n) ∧ ∀ t ∈ o.looksAt ops, t < n)
    (hN : ∀ w, N w w) (hSN : ∀ w w', S w → N w w' → S w') (hKN : ∀ t v w w', K t v w → N w w' → K t v w')
    (hall : ∀ (j : Nat) (o : Oper), ops[j]? = some o → ∀ a w, a.defers = ds → S w → Knows K (o.looksAt ops) a w → Does P ops N K o a w)
    (hQ : ∀ a w, a.tmps.size = n → a.defers = ds → S w → (∀ t < n, ∃ v, a.tmps[t]? = some v ∧ K t v w) → Q .normal a w) :
    ∀ (fuel : Nat) (listed : Array Bool) (a : Act) (w : World), listed.size = ops.size → left ops listed ≤ fuel → a.tmps.size = n → a.defers = ds → S w →
      (∀ t < n, Settled ops listed t → ∃ v, a.tmps[t]? = some v ∧ K t v w) → wpAny P md ops Q fuel listed a w := by
  intro fuel
  have fin : ∀ (listed : Array Bool) (a : Act) (w : World), listed.size = ops.size → a.tmps.size = n → a.defers = ds → S w →
      (∀ t < n, Settled ops listed t → ∃ v, a.tmps[t]? = some v ∧ K t v w) → Region.ready md ops listed = [] → Q .normal a w := by
    intro listed a w hsz hn hd hS hk hr
    have hl := listed_all hlt hsz hr
    exact hQ a w hn hd hS fun t ht => hk t ht fun j o ho _ => hl j o ho
  induction fuel with
  | zero =>
    intro listed a w hsz hleft hn hd hS hk
    have hr : Region.ready md ops listed = [] := by
      rw [List.eq_nil_iff_forall_not_mem]
      intro j hj
      obtain ⟨h0, o, ho, _⟩ := mem_ready.1 hj
      have hlt' : j < ops.size := (Array.getElem?_eq_some_iff.1 ho).1
      have : 0 < left ops listed := List.countP_pos_iff.2 ⟨j, by simpa using hlt', by simp [h0]⟩
      omega
    exact ⟨hr, fin listed a w hsz hn hd hS hk hr⟩
  | succ fuel ih =>
    intro listed a w hsz hleft hn hd hS hk
    refine ⟨fun hr => fin listed a w hsz hn hd hS hk hr, fun i hi => ?_⟩
    obtain ⟨h0, o, ho, hdep⟩ := mem_ready.1 hi
    have hilt : i < ops.size := (Array.getElem?_eq_some_iff.1 ho).1
    have hknow : Knows K (o.looksAt ops) a w := by
      intro t ht
      refine hk t ((hin i o ho).2 t ht) fun j x hx hxd => ?_
      obtain ⟨e, he, hb, rfl⟩ := hlook i o j x t ho hx hxd ht
      have h1 := hdep e he hb
      have hj : e.on < ops.size := (Array.getElem?_eq_some_iff.1 hx).1
      have hj' : e.on < listed.size := by omega
      simpa [hj'] using h1
    refine (hall i o ho a w hd hS hknow).wpOp ho (hN w) fun u w' hw' hp => ?_
    refine ih _ _ _ (by simpa using hsz) ?_ ?_ ?_ (hSN _ _ hS hw') ?_
    · have : left ops (listed.setIfInBounds i true) < left ops listed := by
        refine countP_lt (x := i) (fun j _ hj => ?_) (by simpa using hilt) (by simp [h0]) (by simp [hsz, hilt])
        by_cases hij : i = j
        · subst hij; simp [hsz, hilt] at hj
        · rw [getD_set_ne true hij] at hj; exact hj
      omega
    · unfold Act.put; split <;> simp [hn]
    · unfold Act.put; split <;> exact hd
    · intro t ht hset
      by_cases hdt : o.dst = some t
      · refine ⟨u, ?_, hp t hdt⟩
        have : t < a.tmps.size := by omega
        simp [Act.put, hdt, this]
      · have hset' : Settled ops listed t := by
          intro j x hx hxd
          by_cases hij : i = j
          · subst hij; rw [ho] at hx; cases hx; exact absurd hxd hdt
          · rw [← getD_set_ne true hij]; exact hset j x hx hxd
        obtain ⟨v, hv, hK⟩ := hk t ht hset'
        refine ⟨v, ?_, hKN _ _ _ _ hK hw'⟩
        cases hod : o.dst with
        | none => simpa [Act.put] using hv
        | some d =>
          have : d ≠ t := fun e => hdt (by rw [hod, e])
          simp only [Act.put]
          rw [Array.getElem?_setIfInBounds_ne this]; exact hv

/-- Slots below n. -/
def below (ops : Array Oper) (n : Nat) : Bool :=
  (List.range ops.size).all fun j => match ops[j]? with
    | none => true
    | some o => (match o.dst with | some d => decide (d < n) | none => true) && (o.looksAt ops).all fun t => decide (t < n)

theorem below_spec {n : Nat} (h : below ops n = true) : ∀ (j : Nat) (o : Oper), ops[j]? = some o → (∀ d, o.dst = some d → d < n) ∧ ∀ t ∈ o.looksAt ops, t < n := by
  intro j o ho
  unfold below at h
  rw [List.all_eq_true] at h
  have hlt : j < ops.size := (Array.getElem?_eq_some_iff.1 ho).1
  have := h j (by simpa using hlt)
  simp only [ho, Bool.and_eq_true] at this
  refine ⟨fun d hd => ?_, fun t ht => ?_⟩
  · have h1 := this.1
    simp only [hd] at h1
    simpa using h1
  · simpa using (List.all_eq_true.1 this.2) t ht

/-- The obligations, one for each operation. -/
def Each (P : Program) (ops : Array Oper) (N : World → World → Prop) (K : Tmp → Value → World → Prop) (S : World → Prop) (ds : List Deferred) : List Oper → Prop
  | [] => True
  | o :: l => (∀ a w, a.defers = ds → S w → Knows K (o.looksAt ops) a w → Does P ops N K o a w) ∧ Each P ops N K S ds l

theorem Each.get {S : World → Prop} {ds : List Deferred} : ∀ {l : List Oper}, Each P ops N K S ds l → ∀ (j : Nat) (o : Oper), l[j]? = some o → ∀ a w, a.defers = ds → S w → Knows K (o.looksAt ops) a w → Does P ops N K o a w
  | [], _, j, o, h => by simp at h
  | x :: l, hE, 0, o, h => by simp at h; subst h; exact hE.1
  | x :: l, hE, j + 1, o, h => by simp at h; exact hE.2.get j o h

theorem left_start : left ops (Array.replicate ops.size false) ≤ ops.size := by
  unfold left
  exact Nat.le_trans List.countP_le_length (by simp)

/-- **A region that draws its order, by the values that its slots hold behind it.** F: every slot's value (the loose ones' are of no account); vs: the operations' values in their text's order. -/
theorem wp_region_vals {id : Nat} {a : Act} {w : World} {S : World → Prop} (loose : List Tmp) (p : Tmp → Value → World → Prop) (vs : List Value) (F : Array Value)
    (hm : P.follows .mixedOrders = true) (hck : ck .any ops loose = true) (hb : below ops a.tmps.size = true)
    (hF : putL a.tmps (ops.toList.map (·.dst)) vs = F)
    (hl : (loose.all fun t => ops.toList.any fun o => o.dst == some t) = true)
    (hN : ∀ w, N w w) (hS : S w.drew) (hSN : ∀ w w', S w → N w w' → S w')
    (hpN : ∀ t ∈ loose, ∀ v w w', p t v w → N w w' → p t v w')
    (hall : Each P ops N (Kn F loose p) S a.defers ops.toList)
    (hQ : ∀ T w', T.size = F.size → S w' → (∀ t < F.size, ∃ v, T[t]? = some v ∧ Kn F loose p t v w') → Q .normal { a with tmps := T } w') : (Code.region id ops true).wp P Q a w := by
  obtain ⟨h1, h2, h3, h4⟩ := ck_spec hck
  have hFs : F.size = a.tmps.size := by rw [← hF, putL_size]
  refine wp_region_any hm (wpAny_vals (K := Kn F loose p) (N := N) (S := S) h1 h2 h3 h4 a.tmps.size a.defers (below_spec hb) hN hSN ?_ ?_ ?_ ops.size _ a _ (by simp) left_start rfl rfl hS ?_)
  · rintro t v w w' (⟨hm, hp⟩ | ⟨hm, hp⟩) hw
    · exact .inl ⟨hm, hpN t hm v w w' hp hw⟩
    · exact .inr ⟨hm, hp⟩
  · intro j o ho a' w' hd hS' hK
    exact hall.get j o (by simpa using ho) a' w' hd hS' hK
  · intro a' w' hn hd hS' hk
    have := hQ a'.tmps w' (by rw [hn, hFs]) hS' (by rw [hFs]; exact hk)
    rw [← hd] at this
    exact this
  · intro t ht hset
    have hnd : some t ∉ ops.toList.map (·.dst) := by
      intro hm
      obtain ⟨o, ho, hod⟩ := List.mem_map.1 hm
      obtain ⟨j, hj⟩ := List.mem_iff_getElem?.1 ho
      have hj' : ops[j]? = some o := by simpa using hj
      have h5 := hset j o hj' hod
      have hlt : j < ops.size := (Array.getElem?_eq_some_iff.1 hj').1
      simp [hlt] at h5
    refine ⟨a.tmps[t], by simp [ht], .inr ⟨fun hm => ?_, ?_⟩⟩
    · rw [List.all_eq_true] at hl
      have := hl t hm
      rw [List.any_eq_true] at this
      obtain ⟨o, ho, hod⟩ := this
      exact hnd (List.mem_map.2 ⟨o, ho, by simpa using hod⟩)
    · rw [← hF, putL_off _ _ _ hnd]; simp [ht]

/-- None loose: the act behind the region is known whole. -/
theorem wp_region_vals0 {id : Nat} {a : Act} {w : World} {S : World → Prop} (vs : List Value) (F : Array Value)
    (hm : P.follows .mixedOrders = true) (hck : ck .any ops [] = true) (hb : below ops a.tmps.size = true)
    (hF : putL a.tmps (ops.toList.map (·.dst)) vs = F)
    (hN : ∀ w, N w w) (hS : S w.drew) (hSN : ∀ w w', S w → N w w' → S w')
    (hall : Each P ops N (Kn F [] fun _ _ _ => False) S a.defers ops.toList)
    (hQ : ∀ w', S w' → Q .normal { a with tmps := F } w') : (Code.region id ops true).wp P Q a w := by
  refine wp_region_vals [] (fun _ _ _ => False) vs F hm hck hb hF rfl hN hS hSN (by simp) hall fun T w' hT hS' hk => ?_
  have : T = F := by
    apply Array.ext hT
    intro i h1 h2
    obtain ⟨v, hv, hK⟩ := hk i h2
    rcases hK with ⟨h, _⟩ | ⟨_, hK⟩
    · cases h
    · rw [← hK] at hv; simpa [h1, h2] using hv
  subst this
  exact hQ w' hS'

/-! ### The obligations' moves -/

/-- The operation looks at no loose slot: it is as at F. -/
theorem does_at {F : Array Value} {loose : List Tmp} {p : Tmp → Value → World → Prop} {o : Oper} {a : Act} {w : World} (hs : ∀ cs b, o.op ≠ .select cs b)
    (hl : (o.looksAt ops).all (fun t => !loose.contains t) = true) (hk : Knows (Kn F loose p) (o.looksAt ops) a w)
    (h : Does P ops N (Kn F loose p) o { a with tmps := F } w) : Does P ops N (Kn F loose p) o a w := by
  have hsame : ∀ t ∈ o.looksAt ops, a.tmps[t]? = F[t]? := by
    intro t ht
    obtain ⟨v, hv, hK⟩ := hk t ht
    have h1 := (List.all_eq_true.1 hl) t ht
    rcases hK with ⟨hm, _⟩ | ⟨_, hK⟩
    · simp [hm] at h1
    · rw [hv, hK]
  have he : execOp a.eval o = execOp ({ a with tmps := F } : Act).eval o := by
    refine execOp_congr o hs fun x hx => ?_
    cases x with
    | tmp t =>
      have ht : t ∈ o.looksAt ops := List.mem_append_left _ (List.mem_filterMap.2 ⟨.tmp t, by simpa using hx, rfl⟩)
      have := hsame t ht
      simp [Act.eval, this]
    | _ => rfl
  have hw : Region.wanted o (yielded ops a.tmps) = Region.wanted o (yielded ops F) := by
    unfold Region.wanted
    cases hg : o.guard with
    | none => rfl
    | some gw =>
      obtain ⟨g, want⟩ := gw
      have hy : yielded ops a.tmps g = yielded ops F g := by
        unfold yielded
        cases ht : (ops[g]?).bind (·.dst) with
        | none => rfl
        | some t =>
          have := hsame t (by simp [Oper.looksAt, hg, ht])
          simp [this]
      simp only [hy]
  unfold Does at *
  rw [he, hw]
  exact h

theorem puts_at {F : Array Value} {loose : List Tmp} {p : Tmp → Value → World → Prop} {o : Oper} {w : World} {d : Tmp} {v : Value} (hd : o.dst = some d) (hn : loose.contains d = false) (hv : F[d]? = some v) : Puts (Kn F loose p) o v w := by
  intro d' hd'
  rw [hd] at hd'
  cases hd'
  exact .inr ⟨by simpa using hn, hv⟩

def noSel (o : Oper) : Bool := match o.op with | .select .. => false | _ => true
theorem noSel_spec {o : Oper} (h : noSel o = true) : ∀ cs b, o.op ≠ .select cs b := by
  intro cs b e
  simp [noSel, e] at h

section
variable {F : Array Value} {loose : List Tmp} {p : Tmp → Value → World → Prop} {S : World → Prop} {o : Oper} {ds : List Deferred} {l : List Oper} {d : Tmp} {v : Value}

/-- The operation's own conditions, as one Bool: no select; it looks at no loose slot and writes none. -/
def own (ops : Array Oper) (loose : List Tmp) (o : Oper) (d : Tmp) : Bool := noSel o && (o.looksAt ops).all (fun t => !loose.contains t) && (o.dst == some d) && !loose.contains d
theorem own_spec (h : own ops loose o d = true) : (∀ cs b, o.op ≠ .select cs b) ∧ (o.looksAt ops).all (fun t => !loose.contains t) = true ∧ o.dst = some d ∧ loose.contains d = false := by
  unfold own at h
  simp only [Bool.and_eq_true] at h
  exact ⟨noSel_spec h.1.1.1, h.1.1.2, by simpa using h.1.2, by simpa using h.2⟩

/-- It gives v and leaves the world. -/
theorem Each.val (d : Tmp) (v : Value) (ho : own ops loose o d = true) (hw : Region.wanted o (yielded ops F) = true) (hv : F[d]? = some v) (hN : ∀ w, N w w)
    (he : ∀ w, S w → ∀ ds, (execOp (Act.eval ⟨F, ds⟩) o).run P w = .ok (.value v) w) (hr : Each P ops N (Kn F loose p) S ds l) : Each P ops N (Kn F loose p) S ds (o :: l) :=
  have h := own_spec ho
  ⟨fun a w _ hS hk => does_at h.1 h.2.1 hk (.inr ⟨hw, by
    have := he w hS a.defers
    show Gives P N _ o w ((execOp (Act.eval ⟨F, a.defers⟩) o).run P w)
    rw [this]; exact ⟨hN w, puts_at h.2.2.1 h.2.2.2 hv⟩⟩), hr⟩
/-- It is not wanted. -/
theorem Each.off (d : Tmp) (ho : own ops loose o d = true) (hw : Region.wanted o (yielded ops F) = false) (hv : F[d]? = some undef)
    (hr : Each P ops N (Kn F loose p) S ds l) : Each P ops N (Kn F loose p) S ds (o :: l) :=
  have h := own_spec ho
  ⟨fun a w _ hS hk => does_at h.1 h.2.1 hk (.inl ⟨hw, puts_at h.2.2.1 h.2.2.2 hv⟩), hr⟩
/-- It calls. -/
theorem Each.call (d : Tmp) (v : Value) (f : FuncId) (args : Array Value) (ho : own ops loose o d = true) (hw : Region.wanted o (yielded ops F) = true) (hv : F[d]? = some v)
    (he : ∀ w, ∀ ds, (execOp (Act.eval ⟨F, ds⟩) o).run P w = .ok (.enter f args) w) (hc : ∀ w, S w → Calls P f args w fun e w' => e = .returned v ∧ N w w')
    (hr : Each P ops N (Kn F loose p) S ds l) : Each P ops N (Kn F loose p) S ds (o :: l) :=
  have h := own_spec ho
  ⟨fun a w _ hS hk => does_at h.1 h.2.1 hk (.inr ⟨hw, by
    have := he w a.defers
    show Gives P N _ o w ((execOp (Act.eval ⟨F, a.defers⟩) o).run P w)
    rw [this]; exact (hc w hS).mono fun e w' hh => ⟨v, hh.1, hh.2, puts_at h.2.2.1 h.2.2.2 hv⟩⟩), hr⟩
/-- It makes something new, in a loose slot. -/
theorem Each.makes (d : Tmp) (hs : noSel o = true) (hl : (o.looksAt ops).all (fun t => !loose.contains t) = true) (hd : o.dst = some d) (hm : loose.contains d = true) (hw : Region.wanted o (yielded ops F) = true)
    (he : ∀ w, S w → ∀ ds, ∃ v w', (execOp (Act.eval ⟨F, ds⟩) o).run P w = .ok (.value v) w' ∧ N w w' ∧ p d v w') (hr : Each P ops N (Kn F loose p) S ds l) : Each P ops N (Kn F loose p) S ds (o :: l) :=
  ⟨fun a w _ hS hk => does_at (noSel_spec hs) hl hk (.inr ⟨hw, by
    obtain ⟨v, w', this, h1, h2⟩ := he w hS a.defers
    show Gives P N _ o w ((execOp (Act.eval ⟨F, a.defers⟩) o).run P w)
    rw [this]; exact ⟨h1, fun d' hd' => by rw [hd] at hd'; cases hd'; exact .inl ⟨by simpa using hm, h2⟩⟩⟩), hr⟩
/-- The guard's slot is among l. -/
def guardIn (ops : Array Oper) (o : Oper) (l : List Tmp) : Bool := match o.guard with
  | some (g, _) => match (ops[g]?).bind (·.dst) with | some d => l.contains d | none => true
  | none => true
theorem wanted_same {l : List Tmp} {T : Array Value} (h : guardIn ops o l = true) (hT : ∀ t ∈ l, T[t]? = F[t]?) : Region.wanted o (yielded ops T) = Region.wanted o (yielded ops F) := by
  unfold Region.wanted guardIn at *
  cases hg : o.guard with
  | none => rfl
  | some gw =>
    obtain ⟨g, want⟩ := gw
    have hy : yielded ops T g = yielded ops F g := by
      unfold yielded
      cases ht : (ops[g]?).bind (·.dst) with
      | none => rfl
      | some t =>
        simp only [hg, ht] at h
        have := hT t (by simpa using h)
        simp [this]
    simp only [hy]
/-- A call whose argument is a loose slot. -/
theorem Each.callLoose (d t : Tmp) (v : Value) (f : FuncId) (hd : o.dst = some d) (hm : loose.contains d = false) (hl : o.looksAt ops = t :: (o.looksAt ops).tail) (hlo : loose.contains t = true)
    (hw : Region.wanted o (yielded ops F) = true) (hg : guardIn ops o (o.looksAt ops).tail = true) (hgl : (o.looksAt ops).tail.all (fun t => !loose.contains t) = true) (hv : F[d]? = some v)
    (he : ∀ w a, (execOp (Act.eval a) o).run P w = .ok (.enter f #[a.eval (.tmp t)]) w) (hc : ∀ w x, S w → p t x w → Calls P f #[x] w fun e w' => e = .returned v ∧ N w w')
    (hr : Each P ops N (Kn F loose p) S ds l) : Each P ops N (Kn F loose p) S ds (o :: l) := by
  refine ⟨fun a w _ hS hk => .inr ⟨(wanted_same hg fun t ht => ?_).trans hw, ?_⟩, hr⟩
  · obtain ⟨x, hx, hK⟩ := hk t (by rw [hl]; exact List.mem_cons_of_mem _ ht)
    have h1 := (List.all_eq_true.1 hgl) t ht
    rcases hK with ⟨hm, _⟩ | ⟨_, hK⟩
    · simp [hm] at h1
    · rw [hx, hK]
  · obtain ⟨x, hx, hK⟩ := hk t (by rw [hl]; exact List.mem_cons_self)
    have hp : p t x w := by
      rcases hK with ⟨_, h⟩ | ⟨h, _⟩
      · exact h
      · exact absurd (by simpa using hlo) h
    rw [he, show a.eval (.tmp t) = x by simp [Act.eval, hx]]
    exact (hc w x hS hp).mono fun e w' hh => ⟨v, hh.1, hh.2, puts_at hd hm hv⟩
end
end
end Go.Vals
end
section
namespace Go.Proofs.YtodnlcbnbkkanaaGreatDoor
open Go Go.RowKit

section
variable {w : World} {o : Oper} {ρ : Operand → Value}

theorem ld3 {x : Operand} {p : Addr} {v : Value} (ho : o.op = .load 3 x) (hx : ρ x = .pointer (some p)) (hc : w.cell? p = some v) : (execOp ρ o).run Tryz.prog w = .ok (.value v) w := by
  unfold execOp; rw [ho]; simp only [hx]
  go_simp

theorem ld4 {x : Operand} {p : Addr} {v : Value} (ho : o.op = .load 4 x) (hx : ρ x = .pointer (some p)) (hc : w.cell? p = some v) : (execOp ρ o).run Tryz.prog w = .ok (.value v) w := by
  unfold execOp; rw [ho]; simp only [hx]
  go_simp

theorem ld5 {x : Operand} {p : Addr} {v : Value} (ho : o.op = .load 5 x) (hx : ρ x = .pointer (some p)) (hc : w.cell? p = some v) : (execOp ρ o).run Tryz.prog w = .ok (.value v) w := by
  unfold execOp; rw [ho]; simp only [hx]
  go_simp

theorem ld9 {x : Operand} {p : Addr} {v : Value} (ho : o.op = .load 9 x) (hx : ρ x = .pointer (some p)) (hc : w.cell? p = some v) : (execOp ρ o).run Tryz.prog w = .ok (.value v) w := by
  unfold execOp; rw [ho]; simp only [hx]
  go_simp

theorem ld22 {x : Operand} {p : Addr} {v : Value} (ho : o.op = .load 22 x) (hx : ρ x = .pointer (some p)) (hc : w.cell? p = some v) : (execOp ρ o).run Tryz.prog w = .ok (.value v) w := by
  unfold execOp; rw [ho]; simp only [hx]
  go_simp

theorem ld23 {x : Operand} {p : Addr} {v : Value} (ho : o.op = .load 23 x) (hx : ρ x = .pointer (some p)) (hc : w.cell? p = some v) : (execOp ρ o).run Tryz.prog w = .ok (.value v) w := by
  unfold execOp; rw [ho]; simp only [hx]
  go_simp

theorem ld24 {x : Operand} {p : Addr} {v : Value} (ho : o.op = .load 24 x) (hx : ρ x = .pointer (some p)) (hc : w.cell? p = some v) : (execOp ρ o).run Tryz.prog w = .ok (.value v) w := by
  unfold execOp; rw [ho]; simp only [hx]
  go_simp

theorem ld25 {x : Operand} {p : Addr} {v : Value} (ho : o.op = .load 25 x) (hx : ρ x = .pointer (some p)) (hc : w.cell? p = some v) : (execOp ρ o).run Tryz.prog w = .ok (.value v) w := by
  unfold execOp; rw [ho]; simp only [hx]
  go_simp

theorem ld32 {x : Operand} {p : Addr} {v : Value} (ho : o.op = .load 32 x) (hx : ρ x = .pointer (some p)) (hc : w.cell? p = some v) : (execOp ρ o).run Tryz.prog w = .ok (.value v) w := by
  unfold execOp; rw [ho]; simp only [hx]
  go_simp

theorem ld48 {x : Operand} {p : Addr} {v : Value} (ho : o.op = .load 48 x) (hx : ρ x = .pointer (some p)) (hc : w.cell? p = some v) : (execOp ρ o).run Tryz.prog w = .ok (.value v) w := by
  unfold execOp; rw [ho]; simp only [hx]
  go_simp

theorem ld62 {x : Operand} {p : Addr} {v : Value} (ho : o.op = .load 62 x) (hx : ρ x = .pointer (some p)) (hc : w.cell? p = some v) : (execOp ρ o).run Tryz.prog w = .ok (.value v) w := by
  unfold execOp; rw [ho]; simp only [hx]
  go_simp

theorem ld63 {x : Operand} {p : Addr} {v : Value} (ho : o.op = .load 63 x) (hx : ρ x = .pointer (some p)) (hc : w.cell? p = some v) : (execOp ρ o).run Tryz.prog w = .ok (.value v) w := by
  unfold execOp; rw [ho]; simp only [hx]
  go_simp

theorem ld68 {x : Operand} {p : Addr} {v : Value} (ho : o.op = .load 68 x) (hx : ρ x = .pointer (some p)) (hc : w.cell? p = some v) : (execOp ρ o).run Tryz.prog w = .ok (.value v) w := by
  unfold execOp; rw [ho]; simp only [hx]
  go_simp

theorem ld58 {x : Operand} {p : Addr} {v : Value} (ho : o.op = .load 58 x) (hx : ρ x = .pointer (some p)) (hc : w.cell? p = some v) : (execOp ρ o).run Tryz.prog w = .ok (.value v) w := by
  unfold execOp; rw [ho]; simp only [hx]
  go_simp

theorem ld45 {x : Operand} {p : Addr} {v : Value} (ho : o.op = .load 45 x) (hx : ρ x = .pointer (some p)) (hc : w.cell? p = some v) : (execOp ρ o).run Tryz.prog w = .ok (.value v) w := by
  unfold execOp; rw [ho]; simp only [hx]
  go_simp

theorem ld31 {x : Operand} {p : Addr} {v : Value} (ho : o.op = .load 31 x) (hx : ρ x = .pointer (some p)) (hc : w.cell? p = some v) : (execOp ρ o).run Tryz.prog w = .ok (.value v) w := by
  unfold execOp; rw [ho]; simp only [hx]
  go_simp

theorem ld169 {x : Operand} {p : Addr} {v : Value} (ho : o.op = .load 169 x) (hx : ρ x = .pointer (some p)) (hc : w.cell? p = some v) : (execOp ρ o).run Tryz.prog w = .ok (.value v) w := by
  unfold execOp; rw [ho]; simp only [hx]
  go_simp

theorem ld102 {x : Operand} {p : Addr} {v : Value} (ho : o.op = .load 102 x) (hx : ρ x = .pointer (some p)) (hc : w.cell? p = some v) : (execOp ρ o).run Tryz.prog w = .ok (.value v) w := by
  unfold execOp; rw [ho]; simp only [hx]
  go_simp

theorem ld144 {x : Operand} {p : Addr} {v : Value} (ho : o.op = .load 144 x) (hx : ρ x = .pointer (some p)) (hc : w.cell? p = some v) : (execOp ρ o).run Tryz.prog w = .ok (.value v) w := by
  unfold execOp; rw [ho]; simp only [hx]
  go_simp

theorem ld60 {x : Operand} {b q : Nat} {v : SymM} (ho : o.op = .load 60 x) (hx : ρ x = .pointer (some ⟨b, q, none⟩)) (hc : CellsAt w b q (symC v)) : (execOp ρ o).run Tryz.prog w = .ok (.value (.agg (symC v))) w := by
  obtain ⟨c0, c1, c2, c3, c4, c5⟩ := Sym_at hc
  unfold symC
  unfold execOp; rw [ho]; simp only [hx]
  go_simp

theorem ld65 {x : Operand} {b q : Nat} {v : ProdM} (ho : o.op = .load 65 x) (hx : ρ x = .pointer (some ⟨b, q, none⟩)) (hc : CellsAt w b q (prodC v)) : (execOp ρ o).run Tryz.prog w = .ok (.value (.agg (prodC v))) w := by
  obtain ⟨c0, c1, c2, c3, c4, c5, c6⟩ := Prod_at hc
  unfold prodC
  unfold execOp; rw [ho]; simp only [hx]
  go_simp

theorem ld85 {x : Operand} {b q : Nat} {v : ForM} (ho : o.op = .load 85 x) (hx : ρ x = .pointer (some ⟨b, q, none⟩)) (hc : CellsAt w b q (forC v)) : (execOp ρ o).run Tryz.prog w = .ok (.value (.agg (forC v))) w := by
  obtain ⟨c0, c1, c2⟩ := For_at hc
  unfold forC
  unfold execOp; rw [ho]; simp only [hx]
  go_simp

theorem ld87 {x : Operand} {b q : Nat} {v : FolM} (ho : o.op = .load 87 x) (hx : ρ x = .pointer (some ⟨b, q, none⟩)) (hc : CellsAt w b q (folC v)) : (execOp ρ o).run Tryz.prog w = .ok (.value (.agg (folC v))) w := by
  obtain ⟨c0, c1, c2, c3, c4⟩ := Fol_at hc
  unfold folC
  unfold execOp; rw [ho]; simp only [hx]
  go_simp

theorem ld27 {x : Operand} {b q : Nat} {v : GramM} (ho : o.op = .load 27 x) (hx : ρ x = .pointer (some ⟨b, q, none⟩)) (hc : CellsAt w b q (gramC v)) : (execOp ρ o).run Tryz.prog w = .ok (.value (.agg (gramC v))) w := by
  obtain ⟨c0, c1, c2, c3, c4⟩ := Gram_at hc
  unfold gramC
  unfold execOp; rw [ho]; simp only [hx]
  go_simp

theorem ld70 {x : Operand} {b q : Nat} {p y : Int} {ka : Option Addr} {kc : Nat} {kids : List TreeM} (ho : o.op = .load 70 x) (hx : ρ x = .pointer (some ⟨b, q, none⟩)) (hc : CellsAt w b q (treeC (.node p y ka kc kids))) : (execOp ρ o).run Tryz.prog w = .ok (.value (.agg #[.int .i64 p, .int .u8 y, .slice ka kids.length kc])) w := by
  obtain ⟨c0, c1, c2⟩ := Tree_at hc
  unfold execOp; rw [ho]; simp only [hx]
  go_simp

theorem len22 {x : Operand} {a : Option Addr} {n c : Nat} (ho : o.op = .call { callee := .builtin .len, args := #[x], argTypes := #[22] }) (hx : ρ x = .slice a n c) : (execOp ρ o).run Tryz.prog w = .ok (.value (.int .i64 n)) w := by
  unfold execOp; rw [ho]; simp only [resolve, invoke, builtin, List.map_toArray, List.map_cons, List.map_nil, hx]; go_simp

theorem len23 {x : Operand} {a : Option Addr} {n c : Nat} (ho : o.op = .call { callee := .builtin .len, args := #[x], argTypes := #[23] }) (hx : ρ x = .slice a n c) : (execOp ρ o).run Tryz.prog w = .ok (.value (.int .i64 n)) w := by
  unfold execOp; rw [ho]; simp only [resolve, invoke, builtin, List.map_toArray, List.map_cons, List.map_nil, hx]; go_simp

theorem len24 {x : Operand} {a : Option Addr} {n c : Nat} (ho : o.op = .call { callee := .builtin .len, args := #[x], argTypes := #[24] }) (hx : ρ x = .slice a n c) : (execOp ρ o).run Tryz.prog w = .ok (.value (.int .i64 n)) w := by
  unfold execOp; rw [ho]; simp only [resolve, invoke, builtin, List.map_toArray, List.map_cons, List.map_nil, hx]; go_simp

theorem len25 {x : Operand} {a : Option Addr} {n c : Nat} (ho : o.op = .call { callee := .builtin .len, args := #[x], argTypes := #[25] }) (hx : ρ x = .slice a n c) : (execOp ρ o).run Tryz.prog w = .ok (.value (.int .i64 n)) w := by
  unfold execOp; rw [ho]; simp only [resolve, invoke, builtin, List.map_toArray, List.map_cons, List.map_nil, hx]; go_simp

theorem len48 {x : Operand} {a : Option Addr} {n c : Nat} (ho : o.op = .call { callee := .builtin .len, args := #[x], argTypes := #[48] }) (hx : ρ x = .slice a n c) : (execOp ρ o).run Tryz.prog w = .ok (.value (.int .i64 n)) w := by
  unfold execOp; rw [ho]; simp only [resolve, invoke, builtin, List.map_toArray, List.map_cons, List.map_nil, hx]; go_simp

theorem len62 {x : Operand} {a : Option Addr} {n c : Nat} (ho : o.op = .call { callee := .builtin .len, args := #[x], argTypes := #[62] }) (hx : ρ x = .slice a n c) : (execOp ρ o).run Tryz.prog w = .ok (.value (.int .i64 n)) w := by
  unfold execOp; rw [ho]; simp only [resolve, invoke, builtin, List.map_toArray, List.map_cons, List.map_nil, hx]; go_simp

theorem len68 {x : Operand} {a : Option Addr} {n c : Nat} (ho : o.op = .call { callee := .builtin .len, args := #[x], argTypes := #[68] }) (hx : ρ x = .slice a n c) : (execOp ρ o).run Tryz.prog w = .ok (.value (.int .i64 n)) w := by
  unfold execOp; rw [ho]; simp only [resolve, invoke, builtin, List.map_toArray, List.map_cons, List.map_nil, hx]; go_simp

theorem len31 {x : Operand} {a : Option Addr} {n c : Nat} (ho : o.op = .call { callee := .builtin .len, args := #[x], argTypes := #[31] }) (hx : ρ x = .slice a n c) : (execOp ρ o).run Tryz.prog w = .ok (.value (.int .i64 n)) w := by
  unfold execOp; rw [ho]; simp only [resolve, invoke, builtin, List.map_toArray, List.map_cons, List.map_nil, hx]; go_simp

theorem len104 {x : Operand} {a : Option Addr} {n c : Nat} (ho : o.op = .call { callee := .builtin .len, args := #[x], argTypes := #[104] }) (hx : ρ x = .slice a n c) : (execOp ρ o).run Tryz.prog w = .ok (.value (.int .i64 n)) w := by
  unfold execOp; rw [ho]; simp only [resolve, invoke, builtin, List.map_toArray, List.map_cons, List.map_nil, hx]; go_simp

theorem len9 {x : Operand} {s : ByteArray} (ho : o.op = .call { callee := .builtin .len, args := #[x], argTypes := #[9] }) (hx : ρ x = .string s) : (execOp ρ o).run Tryz.prog w = .ok (.value (.int .i64 s.size)) w := by
  unfold execOp; rw [ho]; simp only [resolve, invoke, builtin, List.map_toArray, List.map_cons, List.map_nil, hx]; go_simp
theorem len169 {x : Operand} {v : Value} {n : Int} (ho : o.op = .call { callee := .builtin .len, args := #[x], argTypes := #[169] }) (hx : ρ x = v) (hl : (Builtin.len_ #[169] o.type #[v]).run Tryz.prog w = .ok (.int .i64 n) w) : (execOp ρ o).run Tryz.prog w = .ok (.value (.int .i64 n)) w := by
  unfold execOp; rw [ho]; simp only [resolve, invoke, builtin, List.map_toArray, List.map_cons, List.map_nil, hx]; simp [hl, Result.andThen]

theorem ex_leq {x y : Operand} {a b : Int} {r : Bool} (ho : o.op = .binOp .leq 3 x y 3) (hx : ρ x = .int .i64 a) (hy : ρ y = .int .i64 b) (h : decide (a ≤ b) = r) : (execOp ρ o).run Tryz.prog w = .ok (.value (.bool r)) w := by
  unfold execOp; rw [ho]; simp only [hx, hy]
  subst h
  go_simp

theorem ex_lss {x y : Operand} {a b : Int} {r : Bool} (ho : o.op = .binOp .lss 3 x y 3) (hx : ρ x = .int .i64 a) (hy : ρ y = .int .i64 b) (h : decide (a < b) = r) : (execOp ρ o).run Tryz.prog w = .ok (.value (.bool r)) w := by
  unfold execOp; rw [ho]; simp only [hx, hy]
  subst h
  go_simp

theorem ex_gtr {x y : Operand} {a b : Int} {r : Bool} (ho : o.op = .binOp .gtr 3 x y 3) (hx : ρ x = .int .i64 a) (hy : ρ y = .int .i64 b) (h : decide (b < a) = r) : (execOp ρ o).run Tryz.prog w = .ok (.value (.bool r)) w := by
  unfold execOp; rw [ho]; simp only [hx, hy]
  subst h
  go_simp

theorem ex_geq {x y : Operand} {a b : Int} {r : Bool} (ho : o.op = .binOp .geq 3 x y 3) (hx : ρ x = .int .i64 a) (hy : ρ y = .int .i64 b) (h : decide (b ≤ a) = r) : (execOp ρ o).run Tryz.prog w = .ok (.value (.bool r)) w := by
  unfold execOp; rw [ho]; simp only [hx, hy]
  subst h
  go_simp

theorem ex_eql3 {x y : Operand} {a b : Int} {r : Bool} (ho : o.op = .binOp .eql 3 x y 3) (hx : ρ x = .int .i64 a) (hy : ρ y = .int .i64 b) (h : (a == b) = r) : (execOp ρ o).run Tryz.prog w = .ok (.value (.bool r)) w := by
  unfold execOp; rw [ho]; simp only [hx, hy]
  go_simp
theorem ex_neq3 {x y : Operand} {a b : Int} {r : Bool} (ho : o.op = .binOp .neq 3 x y 3) (hx : ρ x = .int .i64 a) (hy : ρ y = .int .i64 b) (h : (a == b) = !r) : (execOp ρ o).run Tryz.prog w = .ok (.value (.bool r)) w := by
  unfold execOp; rw [ho]; simp only [hx, hy]
  have h2 : (a != b) = r := by simp [bne, h]
  go_simp

theorem ex_eql32 {x y : Operand} {a b : Int} {r : Bool} (ho : o.op = .binOp .eql 32 x y 32) (hx : ρ x = .int .i64 a) (hy : ρ y = .int .i64 b) (h : (a == b) = r) : (execOp ρ o).run Tryz.prog w = .ok (.value (.bool r)) w := by
  unfold execOp; rw [ho]; simp only [hx, hy]
  go_simp
theorem ex_neq32 {x y : Operand} {a b : Int} {r : Bool} (ho : o.op = .binOp .neq 32 x y 32) (hx : ρ x = .int .i64 a) (hy : ρ y = .int .i64 b) (h : (a == b) = !r) : (execOp ρ o).run Tryz.prog w = .ok (.value (.bool r)) w := by
  unfold execOp; rw [ho]; simp only [hx, hy]
  have h2 : (a != b) = r := by simp [bne, h]
  go_simp

theorem ex_eql63 {x y : Operand} {a b : Int} {r : Bool} (ho : o.op = .binOp .eql 63 x y 63) (hx : ρ x = .int .i64 a) (hy : ρ y = .int .i64 b) (h : (a == b) = r) : (execOp ρ o).run Tryz.prog w = .ok (.value (.bool r)) w := by
  unfold execOp; rw [ho]; simp only [hx, hy]
  go_simp
theorem ex_neq63 {x y : Operand} {a b : Int} {r : Bool} (ho : o.op = .binOp .neq 63 x y 63) (hx : ρ x = .int .i64 a) (hy : ρ y = .int .i64 b) (h : (a == b) = !r) : (execOp ρ o).run Tryz.prog w = .ok (.value (.bool r)) w := by
  unfold execOp; rw [ho]; simp only [hx, hy]
  have h2 : (a != b) = r := by simp [bne, h]
  go_simp

theorem ex_eql58 {x y : Operand} {a b : Int} {r : Bool} (ho : o.op = .binOp .eql 58 x y 58) (hx : ρ x = .int .i64 a) (hy : ρ y = .int .i64 b) (h : (a == b) = r) : (execOp ρ o).run Tryz.prog w = .ok (.value (.bool r)) w := by
  unfold execOp; rw [ho]; simp only [hx, hy]
  go_simp
theorem ex_neq58 {x y : Operand} {a b : Int} {r : Bool} (ho : o.op = .binOp .neq 58 x y 58) (hx : ρ x = .int .i64 a) (hy : ρ y = .int .i64 b) (h : (a == b) = !r) : (execOp ρ o).run Tryz.prog w = .ok (.value (.bool r)) w := by
  unfold execOp; rw [ho]; simp only [hx, hy]
  have h2 : (a != b) = r := by simp [bne, h]
  go_simp

theorem ix22 {x y : Operand} {g f n c k q : Nat} (ho : o.op = .indexAddr 22 x y) (hx : ρ x = .slice (some ⟨g, f, none⟩) n c) (hy : ρ y = .int .i64 (k : Int)) (hk : k < n) (hq : f + k = q) : (execOp ρ o).run Tryz.prog w = .ok (.value (.pointer (some ⟨g, q, none⟩))) w := by
  subst hq
  unfold execOp; rw [ho]; simp only [hx, hy]
  have h0 : (0 : Int) ≤ k := by omega
  have h1 : (k : Int) < n := by omega
  go_simp

theorem ix23 {x y : Operand} {g f n c k q : Nat} (ho : o.op = .indexAddr 23 x y) (hx : ρ x = .slice (some ⟨g, f, none⟩) n c) (hy : ρ y = .int .i64 (k : Int)) (hk : k < n) (hq : f + k * 7 = q) : (execOp ρ o).run Tryz.prog w = .ok (.value (.pointer (some ⟨g, q, none⟩))) w := by
  subst hq
  unfold execOp; rw [ho]; simp only [hx, hy]
  have h0 : (0 : Int) ≤ k := by omega
  have h1 : (k : Int) < n := by omega
  go_simp

theorem ix24 {x y : Operand} {g f n c k q : Nat} (ho : o.op = .indexAddr 24 x y) (hx : ρ x = .slice (some ⟨g, f, none⟩) n c) (hy : ρ y = .int .i64 (k : Int)) (hk : k < n) (hq : f + k * 3 = q) : (execOp ρ o).run Tryz.prog w = .ok (.value (.pointer (some ⟨g, q, none⟩))) w := by
  subst hq
  unfold execOp; rw [ho]; simp only [hx, hy]
  have h0 : (0 : Int) ≤ k := by omega
  have h1 : (k : Int) < n := by omega
  go_simp

theorem ix25 {x y : Operand} {g f n c k q : Nat} (ho : o.op = .indexAddr 25 x y) (hx : ρ x = .slice (some ⟨g, f, none⟩) n c) (hy : ρ y = .int .i64 (k : Int)) (hk : k < n) (hq : f + k * 5 = q) : (execOp ρ o).run Tryz.prog w = .ok (.value (.pointer (some ⟨g, q, none⟩))) w := by
  subst hq
  unfold execOp; rw [ho]; simp only [hx, hy]
  have h0 : (0 : Int) ≤ k := by omega
  have h1 : (k : Int) < n := by omega
  go_simp

theorem ix48 {x y : Operand} {g f n c k q : Nat} (ho : o.op = .indexAddr 48 x y) (hx : ρ x = .slice (some ⟨g, f, none⟩) n c) (hy : ρ y = .int .i64 (k : Int)) (hk : k < n) (hq : f + k = q) : (execOp ρ o).run Tryz.prog w = .ok (.value (.pointer (some ⟨g, q, none⟩))) w := by
  subst hq
  unfold execOp; rw [ho]; simp only [hx, hy]
  have h0 : (0 : Int) ≤ k := by omega
  have h1 : (k : Int) < n := by omega
  go_simp

theorem ix62 {x y : Operand} {g f n c k q : Nat} (ho : o.op = .indexAddr 62 x y) (hx : ρ x = .slice (some ⟨g, f, none⟩) n c) (hy : ρ y = .int .i64 (k : Int)) (hk : k < n) (hq : f + k * 6 = q) : (execOp ρ o).run Tryz.prog w = .ok (.value (.pointer (some ⟨g, q, none⟩))) w := by
  subst hq
  unfold execOp; rw [ho]; simp only [hx, hy]
  have h0 : (0 : Int) ≤ k := by omega
  have h1 : (k : Int) < n := by omega
  go_simp

theorem ix68 {x y : Operand} {g f n c k q : Nat} (ho : o.op = .indexAddr 68 x y) (hx : ρ x = .slice (some ⟨g, f, none⟩) n c) (hy : ρ y = .int .i64 (k : Int)) (hk : k < n) (hq : f + k * 3 = q) : (execOp ρ o).run Tryz.prog w = .ok (.value (.pointer (some ⟨g, q, none⟩))) w := by
  subst hq
  unfold execOp; rw [ho]; simp only [hx, hy]
  have h0 : (0 : Int) ≤ k := by omega
  have h1 : (k : Int) < n := by omega
  go_simp

theorem ix31 {x y : Operand} {g f n c k q : Nat} (ho : o.op = .indexAddr 31 x y) (hx : ρ x = .slice (some ⟨g, f, none⟩) n c) (hy : ρ y = .int .i64 (k : Int)) (hk : k < n) (hq : f + k = q) : (execOp ρ o).run Tryz.prog w = .ok (.value (.pointer (some ⟨g, q, none⟩))) w := by
  subst hq
  unfold execOp; rw [ho]; simp only [hx, hy]
  have h0 : (0 : Int) ≤ k := by omega
  have h1 : (k : Int) < n := by omega
  go_simp

theorem fa27_0 {x : Operand} {g m : Nat} (ho : o.op = .fieldAddr 27 x 0) (hx : ρ x = .pointer (some ⟨g, m, none⟩)) : (execOp ρ o).run Tryz.prog w = .ok (.value (.pointer (some ⟨g, m, none⟩))) w := by
  unfold execOp; rw [ho]; simp only [hx]
  go_simp

theorem fa27_1 {x : Operand} {g m : Nat} (ho : o.op = .fieldAddr 27 x 1) (hx : ρ x = .pointer (some ⟨g, m, none⟩)) : (execOp ρ o).run Tryz.prog w = .ok (.value (.pointer (some ⟨g, m + 1, none⟩))) w := by
  unfold execOp; rw [ho]; simp only [hx]
  go_simp

theorem fa27_2 {x : Operand} {g m : Nat} (ho : o.op = .fieldAddr 27 x 2) (hx : ρ x = .pointer (some ⟨g, m, none⟩)) : (execOp ρ o).run Tryz.prog w = .ok (.value (.pointer (some ⟨g, m + 2, none⟩))) w := by
  unfold execOp; rw [ho]; simp only [hx]
  go_simp

theorem fa27_3 {x : Operand} {g m : Nat} (ho : o.op = .fieldAddr 27 x 3) (hx : ρ x = .pointer (some ⟨g, m, none⟩)) : (execOp ρ o).run Tryz.prog w = .ok (.value (.pointer (some ⟨g, m + 3, none⟩))) w := by
  unfold execOp; rw [ho]; simp only [hx]
  go_simp

theorem fa27_4 {x : Operand} {g m : Nat} (ho : o.op = .fieldAddr 27 x 4) (hx : ρ x = .pointer (some ⟨g, m, none⟩)) : (execOp ρ o).run Tryz.prog w = .ok (.value (.pointer (some ⟨g, m + 4, none⟩))) w := by
  unfold execOp; rw [ho]; simp only [hx]
  go_simp

theorem fa65_0 {x : Operand} {g m : Nat} (ho : o.op = .fieldAddr 65 x 0) (hx : ρ x = .pointer (some ⟨g, m, none⟩)) : (execOp ρ o).run Tryz.prog w = .ok (.value (.pointer (some ⟨g, m, none⟩))) w := by
  unfold execOp; rw [ho]; simp only [hx]
  go_simp

theorem fa65_1 {x : Operand} {g m : Nat} (ho : o.op = .fieldAddr 65 x 1) (hx : ρ x = .pointer (some ⟨g, m, none⟩)) : (execOp ρ o).run Tryz.prog w = .ok (.value (.pointer (some ⟨g, m + 1, none⟩))) w := by
  unfold execOp; rw [ho]; simp only [hx]
  go_simp

theorem fa65_2 {x : Operand} {g m : Nat} (ho : o.op = .fieldAddr 65 x 2) (hx : ρ x = .pointer (some ⟨g, m, none⟩)) : (execOp ρ o).run Tryz.prog w = .ok (.value (.pointer (some ⟨g, m + 2, none⟩))) w := by
  unfold execOp; rw [ho]; simp only [hx]
  go_simp

theorem fa65_3 {x : Operand} {g m : Nat} (ho : o.op = .fieldAddr 65 x 3) (hx : ρ x = .pointer (some ⟨g, m, none⟩)) : (execOp ρ o).run Tryz.prog w = .ok (.value (.pointer (some ⟨g, m + 3, none⟩))) w := by
  unfold execOp; rw [ho]; simp only [hx]
  go_simp

theorem fa65_4 {x : Operand} {g m : Nat} (ho : o.op = .fieldAddr 65 x 4) (hx : ρ x = .pointer (some ⟨g, m, none⟩)) : (execOp ρ o).run Tryz.prog w = .ok (.value (.pointer (some ⟨g, m + 4, none⟩))) w := by
  unfold execOp; rw [ho]; simp only [hx]
  go_simp

theorem fa65_5 {x : Operand} {g m : Nat} (ho : o.op = .fieldAddr 65 x 5) (hx : ρ x = .pointer (some ⟨g, m, none⟩)) : (execOp ρ o).run Tryz.prog w = .ok (.value (.pointer (some ⟨g, m + 5, none⟩))) w := by
  unfold execOp; rw [ho]; simp only [hx]
  go_simp

theorem fa65_6 {x : Operand} {g m : Nat} (ho : o.op = .fieldAddr 65 x 6) (hx : ρ x = .pointer (some ⟨g, m, none⟩)) : (execOp ρ o).run Tryz.prog w = .ok (.value (.pointer (some ⟨g, m + 6, none⟩))) w := by
  unfold execOp; rw [ho]; simp only [hx]
  go_simp

theorem fa60_0 {x : Operand} {g m : Nat} (ho : o.op = .fieldAddr 60 x 0) (hx : ρ x = .pointer (some ⟨g, m, none⟩)) : (execOp ρ o).run Tryz.prog w = .ok (.value (.pointer (some ⟨g, m, none⟩))) w := by
  unfold execOp; rw [ho]; simp only [hx]
  go_simp

theorem fa60_1 {x : Operand} {g m : Nat} (ho : o.op = .fieldAddr 60 x 1) (hx : ρ x = .pointer (some ⟨g, m, none⟩)) : (execOp ρ o).run Tryz.prog w = .ok (.value (.pointer (some ⟨g, m + 1, none⟩))) w := by
  unfold execOp; rw [ho]; simp only [hx]
  go_simp

theorem fa60_2 {x : Operand} {g m : Nat} (ho : o.op = .fieldAddr 60 x 2) (hx : ρ x = .pointer (some ⟨g, m, none⟩)) : (execOp ρ o).run Tryz.prog w = .ok (.value (.pointer (some ⟨g, m + 5, none⟩))) w := by
  unfold execOp; rw [ho]; simp only [hx]
  go_simp

theorem fa85_0 {x : Operand} {g m : Nat} (ho : o.op = .fieldAddr 85 x 0) (hx : ρ x = .pointer (some ⟨g, m, none⟩)) : (execOp ρ o).run Tryz.prog w = .ok (.value (.pointer (some ⟨g, m, none⟩))) w := by
  unfold execOp; rw [ho]; simp only [hx]
  go_simp

theorem fa85_1 {x : Operand} {g m : Nat} (ho : o.op = .fieldAddr 85 x 1) (hx : ρ x = .pointer (some ⟨g, m, none⟩)) : (execOp ρ o).run Tryz.prog w = .ok (.value (.pointer (some ⟨g, m + 1, none⟩))) w := by
  unfold execOp; rw [ho]; simp only [hx]
  go_simp

theorem fa85_2 {x : Operand} {g m : Nat} (ho : o.op = .fieldAddr 85 x 2) (hx : ρ x = .pointer (some ⟨g, m, none⟩)) : (execOp ρ o).run Tryz.prog w = .ok (.value (.pointer (some ⟨g, m + 2, none⟩))) w := by
  unfold execOp; rw [ho]; simp only [hx]
  go_simp

theorem fa87_0 {x : Operand} {g m : Nat} (ho : o.op = .fieldAddr 87 x 0) (hx : ρ x = .pointer (some ⟨g, m, none⟩)) : (execOp ρ o).run Tryz.prog w = .ok (.value (.pointer (some ⟨g, m, none⟩))) w := by
  unfold execOp; rw [ho]; simp only [hx]
  go_simp

theorem fa87_1 {x : Operand} {g m : Nat} (ho : o.op = .fieldAddr 87 x 1) (hx : ρ x = .pointer (some ⟨g, m, none⟩)) : (execOp ρ o).run Tryz.prog w = .ok (.value (.pointer (some ⟨g, m + 1, none⟩))) w := by
  unfold execOp; rw [ho]; simp only [hx]
  go_simp

theorem fa70_0 {x : Operand} {g m : Nat} (ho : o.op = .fieldAddr 70 x 0) (hx : ρ x = .pointer (some ⟨g, m, none⟩)) : (execOp ρ o).run Tryz.prog w = .ok (.value (.pointer (some ⟨g, m, none⟩))) w := by
  unfold execOp; rw [ho]; simp only [hx]
  go_simp

theorem fa70_1 {x : Operand} {g m : Nat} (ho : o.op = .fieldAddr 70 x 1) (hx : ρ x = .pointer (some ⟨g, m, none⟩)) : (execOp ρ o).run Tryz.prog w = .ok (.value (.pointer (some ⟨g, m + 1, none⟩))) w := by
  unfold execOp; rw [ho]; simp only [hx]
  go_simp

theorem fa70_2 {x : Operand} {g m : Nat} (ho : o.op = .fieldAddr 70 x 2) (hx : ρ x = .pointer (some ⟨g, m, none⟩)) : (execOp ρ o).run Tryz.prog w = .ok (.value (.pointer (some ⟨g, m + 2, none⟩))) w := by
  unfold execOp; rw [ho]; simp only [hx]
  go_simp

end
end Go.Proofs.YtodnlcbnbkkanaaGreatDoor
end
