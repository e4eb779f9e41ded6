import Derived.StillTailTactics
import Derived.Maps.Keyed
import Derived.Maps.OwnSet
import Derived.Maps.OwnOps
import Derived.Maps.Views
import Derived.DeepKeys5
import Derived.ChangeSame
import Derived.RangeFuncLeaves
import Derived.RangeFuncKeeps
import Derived.RangeFuncWrites
import Derived.RangeFuncNested
import Derived.Shelf.Abstract
import Derived.Shelf.RegionOpen
import Derived.OwnWalkIn
import Derived.TacticsInMore
import Derived.LoopNIn
import Derived.LoopIn
import Derived.RangeFuncBox
import Derived.Maps.OwnIn
import Derived.StringKeys
import Derived.Lib.OwnKind
import Derived.Deep.AppendLies
import Derived.Maps.AppendAt
import Derived.IntWalk
import Derived.Test.YtodnlcbnbkkanaaGreatDoorO1
section
namespace Go.Proofs.YtodnlcbnbkkanaaGreatDoor
open Go Go.RowKit

theorem Blk.gram {w : World} {B : Nat} {g : GramM} (h : Blk w B 27 (gramC g)) : w.cell? ⟨B, 0, none⟩ = some (.slice g.sa g.sorts.length g.sc) ∧ w.cell? ⟨B, 1, none⟩ = some (.slice g.pa g.prods.length g.pc) ∧ w.cell? ⟨B, 2, none⟩ = some (.int .i64 g.start) ∧
    w.cell? ⟨B, 3, none⟩ = some (.slice g.fa g.forbid.length g.fc) ∧ w.cell? ⟨B, 4, none⟩ = some (.slice g.wa g.follow.length g.wc) := ⟨h.cell 0, h.cell 1, h.cell 2, h.cell 3, h.cell 4⟩
set_option maxRecDepth 100000 in
set_option maxHeartbeats 1000000 in
theorem f79_any (x : ProdM) (g : GramM) (B : Nat) (w : World) (hx : ProdIn w x) (hn : x.right.length ≤ 1048576) (hb : Blk w B 27 (gramC g)) :
    Calls Tryz.prog 126 #[prodV x, .pointer (some ⟨B, 0, none⟩)] w fun e w' => e = .returned (.bool (prodB g.sorts.length x)) ∧ Below w.heap.size w w' := by
  have hB1 : Below w.heap.size w (w.alloc (.cells (prodC x) 65)) := (Below.refl _ _).alloc (Nat.le_refl _) _
  have HC := Lib.hid (prodMay_any x g.sorts.length _ (hx.below hB1) hn)
  have hlt := hb.lt
  have HB := Lib.hid hB1
  obtain ⟨c0, _, _, _, _⟩ := hb.gram
  clear hb hx hB1
  generalize prodB g.sorts.length x = r at *
  unfold prodV prodC at *
  go_enter Tryz.func126, Tryz.ntmps126
  go_wp2_with (go_at_call 127; refine HC.out.mono ?_; rintro e w3 ⟨rfl, hB3⟩)
  go_ret
  exact ⟨rfl, HB.out.trans (hB3.mono HB.out.size)⟩

structure Fit (g : GramM) : Prop where
  sorts : g.sorts.length ≤ 1048576
  prods : g.prods.length ≤ 1048576
  right : ∀ x, x ∈ g.prods → x.right.length ≤ 1048576
  forbid : g.forbid.length ≤ 1048576
  follow : g.follow.length ≤ 1048576
  at_ : ∀ f, f ∈ g.forbid → -9223372036854775808 ≤ f.at_ ∧ f.at_ ≤ 9223372036854775807
  names : ∀ s, s ∈ g.sorts → s.size ≤ 9223372036854775807

theorem RowOf.mem {α : Type} {k : Nat} {cs : α → Array Value} {G : World → α → Prop} {w : World} {a : Option Addr} {l : List α} (h : RowOf k cs G w a l) {x : α} (hx : x ∈ l) : G w x := by
  obtain ⟨i, hi⟩ := List.mem_iff_getElem?.1 hx
  obtain ⟨_, _, _, _, _, k⟩ := h i x hi
  exact k

def prodsB (g : GramM) : Bool := decide (g.prods.length ≤ 1000) && g.prods.all (prodB g.sorts.length)

set_option maxRecDepth 100000 in
set_option maxHeartbeats 1000000 in
theorem prodsMay_any (g : GramM) (w : World) (hg : GIn w g) (hf : Fit g) : Calls Tryz.prog 94 #[gramV g] w fun e w' => e = .returned (.bool (prodsB g)) ∧ Below w.heap.size w w' := by
  have hB1 : Below w.heap.size w (w.alloc (.cells (gramC g) 27)) := (Below.refl _ _).alloc (Nat.le_refl _) _
  have HA := Lib.hid (allProd_any g.pa g.pc g.prods (prodB g.sorts.length) 126 #[.pointer (some ⟨w.heap.size, 0, none⟩)] (fun _ _ => by kernel_rfl) _ (hg.prods.below hB1) hf.prods (fun x hx W hW =>
    f79_any x g w.heap.size W ((RowOf.mem hg.prods hx).below (hB1.trans (hW.mono (by simp)))) (hf.right x hx) ((Blk.new w 27 (gramC g)).below hW (by simp))))
  have HB := Lib.hid hB1
  have HR : Hid (prodsB g = (decide (g.prods.length ≤ 1000) && g.prods.all (prodB g.sorts.length))) := Lib.hid rfl
  clear hg hf hB1
  generalize g.prods.all (prodB g.sorts.length) = r at *
  generalize prodsB g = q at *
  unfold gramV gramC at *
  generalize g.prods.length = n at *
  by_cases h : n ≤ 1000
  · have HR2 : Hid (q = r) := Lib.hid (by rw [HR.out]; simp [h])
    have hi : (n : Int) ≤ 1000 := by omega
    clear HR h
    go_enter Tryz.func94, Tryz.ntmps94
    go_wp2_with fail
    refine HA.out.mono ?_
    rintro e w3 ⟨rfl, hB3⟩
    have HB3 := Lib.hid (HB.out.trans (hB3.mono HB.out.size))
    clear hB3
    go_wp2
    go_ret
    exact ⟨by rw [HR2.out]; try rfl, HB3.out⟩
  · have HR2 : Hid (q = false) := Lib.hid (by rw [HR.out]; simp [h])
    have hi : ¬ (n : Int) ≤ 1000 := by omega
    clear HR h HA
    go_enter Tryz.func94, Tryz.ntmps94
    go_wp2
    go_ret
    exact ⟨by rw [HR2.out]; try rfl, HB.out⟩

def startB (g : GramM) : Bool := numB g.start g.sorts.length

set_option maxRecDepth 100000 in
theorem startMay_any (g : GramM) (w : World) : Calls Tryz.prog 93 #[gramV g] w fun e w' => e = .returned (.bool (startB g)) ∧ Below w.heap.size w w' := by
  have HB : Hid (Below w.heap.size w (w.alloc (.cells (gramC g) 27))) := (Below.refl _ _).alloc (Nat.le_refl _) _
  have HN := fun w' => Lib.hid (num_any g.start g.sorts.length w')
  unfold startB gramV gramC at *
  generalize numB g.start g.sorts.length = r at *
  go_enter Tryz.func93, Tryz.ntmps93
  go_wp2_with (go_at_call 90; refine (HN _).out.mono ?_; rintro e w3 ⟨rfl, rfl⟩)
  go_ret
  exact ⟨rfl, HB.out⟩

def standB (p : ProdM) (k : Int) (c : ProdM) : Bool := !(p.role == 11) && (!(c.role == 11) && (numB (k - 1) p.right.length && (match p.right[(k - 1).toNat]? with | some s => s.kind == 1 && s.sort == c.left | none => false)))

set_option maxRecDepth 100000 in
set_option maxHeartbeats 4000000 in
theorem standMay_any (p c : ProdM) (k : Int) (w : World) (hp : ProdIn w p) (hn : p.right.length ≤ 1048576) (hk0 : -9223372036854775808 ≤ k) (hk1 : k ≤ 9223372036854775807) :
    Calls Tryz.prog 131 #[prodV p, .int .i64 k, prodV c] w fun e w' => e = .returned (.bool (standB p k c)) ∧ Below w.heap.size w w' := by
  have HB : Hid (Below w.heap.size w ((w.alloc (.cells (prodC p) 65)).alloc (.cells (prodC c) 65))) := Lib.hid (((Below.refl _ _).alloc (Nat.le_refl _) _).alloc (by simp) _)
  have HP := Lib.hid hp
  have HR : Hid (standB p k c = (!(p.role == 11) && (!(c.role == 11) && (numB (k - 1) p.right.length && (match p.right[(k - 1).toNat]? with | some s => s.kind == 1 && s.sort == c.left | none => false))))) := Lib.hid rfl
  clear hp
  generalize standB p k c = q at *
  obtain ⟨pl, pra, prc, pr, pc, pro, pp, pav, pf⟩ := p
  obtain ⟨cl, cra, crc, cr, cc, cro, cp, cav, cf⟩ := c
  unfold ProdIn at HP
  unfold prodV prodC at *
  dsimp only at *
  by_cases h1 : pro = 11
  · have HR2 : Hid (q = false) := Lib.hid (by rw [HR.out]; simp [h1])
    subst h1
    clear HR HP
    go_enter Tryz.func131, Tryz.ntmps131
    go_wp2
    go_ret
    exact ⟨by rw [HR2.out]; try rfl, HB.out⟩
  · have e1 : (pro == 11) = false := by simpa using h1
    by_cases h2 : cro = 11
    · have HR2 : Hid (q = false) := Lib.hid (by rw [HR.out]; simp [h2])
      subst h2
      clear HR h1 HP
      go_enter Tryz.func131, Tryz.ntmps131
      go_wp2
      go_ret
      exact ⟨by rw [HR2.out]; try rfl, HB.out⟩
    · have e2 : (cro == 11) = false := by simpa using h2
      by_cases h3 : 1 ≤ k ∧ k ≤ pr.length
      · obtain ⟨m, hm⟩ : ∃ m : Nat, k = m + 1 := ⟨(k - 1).toNat, by omega⟩
        subst hm
        have hm : m < pr.length := by omega
        obtain ⟨s, hs⟩ : ∃ s, pr[m]? = some s := ⟨_, List.getElem?_eq_getElem hm⟩
        have hnum : numB ((m : Int) + 1 - 1) pr.length = true := by unfold numB; simp; omega
        have HR2 : Hid (q = (s.kind == 1 && s.sort == cl)) := Lib.hid (by
          rw [HR.out, e1, e2, hnum, show ((m : Int) + 1 - 1).toNat = m by omega, hs]; rfl)
        have HN := fun w' => Lib.hid (num_any m pr.length w')
        have hnum2 : numB m pr.length = true := by unfold numB; simp; omega
        rw [hnum2] at HN
        obtain ⟨b, off, rfl, hbw, hc, _⟩ := HP.out m s hs
        have hc := hc.below HB.out hbw
        have hcw : b < ((w.alloc (.cells #[.int .i64 pl, .slice (some ⟨b, off, none⟩) pr.length prc, .string pc, .int .i64 pro, .bool pp, .bool pav, .int .i64 pf] 65)).alloc (.cells #[.int .i64 cl, .slice cra cr.length crc, .string cc, .int .i64 cro, .bool cp, .bool cav, .int .i64 cf] 65)).heap.size := by simp; omega
        obtain ⟨c0, c1, c2, c3, c4, c5⟩ := Sym_at hc
        obtain ⟨sk, ss, so⟩ := s
        dsimp only at *
        clear HR hc h1 h2 hnum hnum2 hs hn
        generalize pr.length = n at *
        have hmi : (m : Int) < n := by omega
        by_cases h4 : sk = 1
        · subst h4
          have HR3 : Hid (q = (so == cl)) := Lib.hid (by rw [HR2.out]; rfl)
          clear HR2
          go_enter Tryz.func131, Tryz.ntmps131
          go_wp2_with (go_at_call 90; (with_reducible refine (HN _).out.mono ?_); rintro e w3 ⟨rfl, rfl⟩)
          go_ret
          exact ⟨by rw [HR3.out]; try rfl, HB.out.alloc (by simp; omega) _⟩
        · have e4 : (sk == 1) = false := by simpa using h4
          have HR3 : Hid (q = false) := Lib.hid (by rw [HR2.out, e4]; rfl)
          clear HR2 h4
          go_enter Tryz.func131, Tryz.ntmps131
          go_wp2_with (go_at_call 90; (with_reducible refine (HN _).out.mono ?_); rintro e w3 ⟨rfl, rfl⟩)
          go_ret
          exact ⟨by rw [HR3.out]; try rfl, HB.out.alloc (by simp; omega) _⟩
      · have hnum : numB (k - 1) pr.length = false := by unfold numB; simp; omega
        have HR2 : Hid (q = false) := Lib.hid (by rw [HR.out, hnum]; simp)
        by_cases h4 : k = -9223372036854775808
        · subst h4
          have hnum2 : numB (wrap64 (-9223372036854775809)) pr.length = false := by
            rw [show wrap64 (-9223372036854775809) = 9223372036854775807 by kernel_rfl]
            unfold numB; simp; omega
          have HN := fun w' => Lib.hid (num_any (wrap64 (-9223372036854775809)) pr.length w')
          rw [hnum2] at HN
          clear HR h1 h2 h3 HP hnum2 hnum hk0 hk1
          go_enter Tryz.func131, Tryz.ntmps131
          go_wp2_with fail
          with_reducible refine (HN _).out.mono ?_
          rintro e w3 ⟨rfl, rfl⟩
          go_wp2
          go_ret
          exact ⟨by rw [HR2.out]; try rfl, HB.out⟩
        · have hk2 : -9223372036854775807 ≤ k := by omega
          have hk3 : k - 1 ≤ 9223372036854775807 := by omega
          have HN := fun w' => Lib.hid (num_any (k - 1) pr.length w')
          rw [hnum] at HN
          clear HR h1 h2 h3 h4 HP hnum
          go_enter Tryz.func131, Tryz.ntmps131
          go_wp2_with fail
          refine (HN _).out.mono ?_
          rintro e w3 ⟨rfl, rfl⟩
          go_wp2
          go_ret
          exact ⟨by rw [HR2.out]; try rfl, HB.out⟩
end Go.Proofs.YtodnlcbnbkkanaaGreatDoor
end
section
namespace Go.Proofs.YtodnlcbnbkkanaaGreatDoor
open Go Go.RowKit Go.Maps Go.WideMaps

def onceA {α : Type} (eq : α → α → Bool) : List α → List α → Bool
  | _, [] => true
  | acc, x :: r => !acc.any (fun y => eq y x) && onceA eq (acc ++ [x]) r
theorem onceA_iff {α : Type} (eq : α → α → Bool) : ∀ (l acc : List α), onceA eq acc l = true ↔ (∀ x, x ∈ l → ∀ y, y ∈ acc → eq y x = false) ∧ l.Pairwise (fun a b => eq a b = false) := by
  intro l
  induction l with
  | nil => intro acc; simp [onceA]
  | cons x r ih =>
    intro acc
    rw [onceA, Bool.and_eq_true, ih, List.pairwise_cons]
    constructor
    · rintro ⟨h1, h2, h3⟩
      have h1' : ∀ y, y ∈ acc → eq y x = false := fun y hy => by
        cases h : eq y x
        · rfl
        · have : acc.any (fun y => eq y x) = true := List.any_eq_true.2 ⟨y, hy, h⟩
          rw [this] at h1; cases h1
      refine ⟨fun z hz y hy => ?_, fun z hz => h2 z hz x (by simp), h3⟩
      rcases List.mem_cons.1 hz with rfl | hz
      · exact h1' y hy
      · exact h2 z hz y (by simp [hy])
    · rintro ⟨h1, h2, h3⟩
      refine ⟨?_, fun z hz y hy => ?_, h3⟩
      · have : acc.any (fun y => eq y x) = false := by
          rw [List.any_eq_false]
          intro y hy
          rw [h1 x (by simp) y hy]; simp
        rw [this]; rfl
      · rcases List.mem_append.1 hy with hy | hy
        · exact h1 z (by simp [hz]) y hy
        · simp at hy; subst hy; exact h2 z hz
theorem addKey_len (acc : List Lit) (x : Lit) : (addKey acc x).length ≤ acc.length + 1 := by unfold addKey; split <;> simp
theorem fold_len : ∀ (l acc : List Lit), (l.foldl addKey acc).length ≤ acc.length + l.length := by
  intro l
  induction l with
  | nil => intro acc; simp
  | cons x r ih => intro acc; rw [List.foldl_cons]; have := ih (addKey acc x); have := addKey_len acc x; simp only [List.length_cons]; omega
theorem fold_once : ∀ (l acc : List Lit), decide ((l.foldl addKey acc).length = acc.length + l.length) = onceA (fun y x => y.sameKey x) acc l := by
  intro l
  induction l with
  | nil => intro acc; simp [onceA]
  | cons x r ih =>
    intro acc
    rw [List.foldl_cons, onceA]
    cases h : acc.any (fun y => y.sameKey x)
    · have h2 : addKey acc x = acc ++ [x] := by unfold addKey; rw [h]; rfl
      rw [h2, ← ih]
      simp only [List.length_append, List.length_cons, List.length_nil, Bool.not_false, Bool.true_and]
      rw [Bool.eq_iff_iff]; simp only [decide_eq_true_eq]; omega
    · have h2 : addKey acc x = acc := by unfold addKey; rw [h]; rfl
      have h3 := fold_len r acc
      rw [h2]
      simp only [List.length_cons, Bool.not_true, Bool.false_and, decide_eq_false_iff_not]
      omega
theorem once_map {α : Type} (key : α → Lit) (eq : α → α → Bool) : ∀ (l acc : List α), (∀ a b, a ∈ acc ++ l → b ∈ acc ++ l → (key a).sameKey (key b) = eq a b) → onceA (fun y x => y.sameKey x) (acc.map key) (l.map key) = onceA eq acc l := by
  intro l
  induction l with
  | nil => intro acc _; simp [onceA]
  | cons x r ih =>
    intro acc h
    rw [List.map_cons, onceA, onceA]
    have e := ih (acc ++ [x]) (fun a b ha hb => h a b (by simpa using ha) (by simpa using hb))
    rw [List.map_append, List.map_cons, List.map_nil] at e
    rw [e, List.any_map]
    congr 2
    rw [Bool.eq_iff_iff, List.any_eq_true, List.any_eq_true]
    constructor
    · rintro ⟨y, hy, hk⟩; exact ⟨y, hy, by rw [← h y x (by simp [hy]) (by simp)]; exact hk⟩
    · rintro ⟨y, hy, hk⟩; exact ⟨y, hy, by show (key y).sameKey (key x) = true; rw [h y x (by simp [hy]) (by simp)]; exact hk⟩

def I64 (n : Int) : Prop := -9223372036854775808 ≤ n ∧ n ≤ 9223372036854775807
theorem wf_int {n : Int} (h : I64 n) : (Lit.int .i64 n).wf = true := by
  have h0 : IntKind.i64.min = -9223372036854775808 := by decide
  have h1 : IntKind.i64.max = 9223372036854775807 := by decide
  unfold I64 at h
  simp [Lit.wf, h0, h1]; omega
abbrev unitE : Value → Option (DataW Unit × List MemPlace) := unitElem (H := Unit)

theorem laidOut : laidOutB Tryz.prog = true := by kernel_rfl
theorem key3 : Keyed Tryz.prog 3 := int_keyed Tryz.underlying3
theorem key85 : Keyed Tryz.prog 85 := Keyed.of_law (deep_law_gate laidOut (of_decide_eq_true (by kernel_rfl)) (of_decide_eq_true (by kernel_rfl)) (by kernel_rfl) (by kernel_rfl))
theorem key9 : Keyed Tryz.prog 9 := string_keyed Tryz.underlying9

theorem keyLits3 (d : Nat) (n : Int) (h : I64 n) : Tryz.prog.keyLits (d + 1) 3 [.int .i64 n] = some [.int .i64 n] := by
  unfold Program.keyLits
  simp [Tryz.underlying3, wf_int h]
theorem fields85 : (Tryz.prog.fieldsOf 85).toList.map (fun f => (f.name, f.type, f.offset)) = [("Parent", 3, 0), ("At", 3, 1), ("Child", 3, 2)] := by kernel_rfl
theorem cellsOf3 : Tryz.prog.cellsOf 3 = 1 := by kernel_rfl
theorem cellsOf85 : Tryz.prog.cellsOf 85 = 3 := by kernel_rfl
theorem keyType85 : Tryz.prog.keyType 85 = true := by kernel_rfl

structure FitF (f : ForM) : Prop where
  parent : I64 f.parent
  at_ : I64 f.at_
  child : I64 f.child

theorem key_for (f : ForM) (h : FitF f) : keyOf Tryz.prog 85 (forV f) = some (.string (keyBytes [.int .i64 f.parent, .int .i64 f.at_, .int .i64 f.child])) := by
  have hsz : ∃ m, Tryz.prog.types.size = m + 1 := ⟨Tryz.prog.types.size - 1, by have : 0 < Tryz.prog.types.size := of_decide_eq_true (by kernel_rfl); omega⟩
  obtain ⟨m, hm⟩ := hsz
  have h1 : Tryz.prog.underlying 85 = some (.struct (Tryz.prog.fieldsOf 85)) := by kernel_rfl
  have hf := fields85
  have hfm : (forV f).formed Tryz.prog 85 = true := by simp [forV, forC, Value.formed, h1, cellsOf85]
  unfold keyOf
  rw [h1, keyType85, hfm, hm]
  unfold Program.keyLits
  simp only [h1, cellsOf85]
  have hall : (Tryz.prog.fieldsOf 85).all (fun x => x.name != "_") = true := by kernel_rfl
  rw [hall]
  revert hf
  generalize (Tryz.prog.fieldsOf 85).toList = fs
  intro hf
  obtain ⟨f0, fs0, rfl⟩ : ∃ f l, fs = f :: l := by cases fs with | nil => simp at hf | cons f l => exact ⟨f, l, rfl⟩
  obtain ⟨f1, fs1, rfl⟩ : ∃ f l, fs0 = f :: l := by cases fs0 with | nil => simp at hf | cons f l => exact ⟨f, l, rfl⟩
  obtain ⟨f2, fs2, rfl⟩ : ∃ f l, fs1 = f :: l := by cases fs1 with | nil => simp at hf | cons f l => exact ⟨f, l, rfl⟩
  obtain rfl : fs2 = [] := by cases fs2 with | nil => rfl | cons f l => simp at hf
  simp only [List.map_cons, List.map_nil, List.cons.injEq, Prod.mk.injEq, and_true] at hf
  obtain ⟨⟨_, t0, o0⟩, ⟨_, t1, o1⟩, ⟨_, t2, o2⟩⟩ := hf
  simp only [Bool.and_self, if_true, forV, forC, Value.cells, List.mapM_cons, List.mapM_nil, t0, t1, t2, o0, o1, o2, cellsOf3]
  simp [keyLits3 m _ h.parent, keyLits3 m _ h.at_, keyLits3 m _ h.child]

theorem forV_inj {f g : ForM} (h : forV f = forV g) : f = g := by
  obtain ⟨a, b, c⟩ := f
  obtain ⟨a', b', c'⟩ := g
  unfold forV forC at h
  injection h with h
  simpa using h
def forEq (f g : ForM) : Bool := f.parent == g.parent && (f.at_ == g.at_ && f.child == g.child)
theorem forEq_iff (f g : ForM) : forEq f g = true ↔ f = g := by
  obtain ⟨a, b, c⟩ := f
  obtain ⟨a', b', c'⟩ := g
  simp [forEq]
def forK (f : ForM) : Lit := .string (keyBytes [.int .i64 f.parent, .int .i64 f.at_, .int .i64 f.child])
theorem forK_same {f g : ForM} (hf : FitF f) (hg : FitF g) : (forK f).sameKey (forK g) = forEq f g := by
  rw [Bool.eq_iff_iff, forEq_iff]
  constructor
  · intro h
    have e := WideAt.sameKey_eq h
    have h1 := key_for f hf
    have h2 := key_for g hg
    unfold forK at e
    rw [← e] at h2
    exact forV_inj (key85.inj h1 h2)
  · rintro rfl; exact WideAt.sameKey_self (key85.key (key_for f hf))
theorem intK_same (a b : Int) : (Lit.int .i64 a).sameKey (.int .i64 b) = (a == b) := by
  simp [Lit.sameKey]; rfl

theorem take_snoc {α : Type} (l : List α) (k : Nat) (x : α) (h : l[k]? = some x) : l.take (k + 1) = l.take k ++ [x] := by
  rw [List.take_add_one, h]; rfl

set_option maxRecDepth 100000 in
set_option maxHeartbeats 1000000 in
theorem onceFor_any (a : Option Addr) (c : Nat) (l : List ForM) (w : World) (hl : RowFor w a l) (hn : l.length ≤ 1048576) (hF : ∀ f, f ∈ l → FitF f) :
    Calls Tryz.prog 128 #[.slice a l.length c] w fun e w' => e = .returned (.bool (onceA forEq [] l)) ∧ Below w.heap.size w w' := by
  have HL := Lib.hid hl
  have HF := Lib.hid hF
  have HO : Hid (decide (size (setOf (.agg []) (l.map forK) : DataW Unit) = l.length) = onceA forEq [] l) := Lib.hid (by
    rw [size_setOf _ _ (fun x hx => by obtain ⟨f, hf, rfl⟩ := List.mem_map.1 hx; exact key85.key (key_for f (hF f hf)))]
    have h1 := fold_once (l.map forK) []
    simp only [List.length_nil, Nat.zero_add, List.length_map] at h1
    rw [h1]
    exact once_map forK forEq l [] (fun a b ha hb => forK_same (hF a (by simpa using ha)) (hF b (by simpa using hb))))
  clear hl hF
  obtain ⟨n, hln⟩ : ∃ n, n = l.length := ⟨_, rfl⟩
  have HN := Lib.hid hln
  rw [← hln] at hn ⊢
  rw [← hln] at HO
  clear hln
  have hmm := @run_makeMap Tryz.prog
  have hM0 := World.ownsMap_made w Tryz.prog 85 unitE
  have hB0 : Hid (Below w.heap.size w (w.alloc (.map #[] 0))) := Lib.hid ((Below.refl _ _).alloc (Nat.le_refl _) _)
  go_enter Tryz.func128, Tryz.ntmps128
  go_wp2
  go_loopw [9] (fun i wr => ∃ (k : Nat), i = .int .i64 k ∧ k ≤ n ∧ wr.ownsMap Tryz.prog 85 unitE w.heap.size k (setOf (.agg []) ((l.take k).map forK)) ∧ Hid (Below w.heap.size w wr))
    (fun i _ => n - (intOf i).toNat)
  case atStart => exact ⟨0, rfl, Nat.zero_le _, hM0, hB0⟩
  case round =>
    clear hM0 hB0
    obtain ⟨k, rfl, hk, hown, hB⟩ := hrel
    by_cases hlt : k < n
    · obtain ⟨f, hf⟩ : ∃ f, l[k]? = some f := ⟨_, List.getElem?_eq_getElem (by rw [← HN.out]; exact hlt)⟩
      have HS : Hid (setOf (.agg []) ((l.take (k + 1)).map forK) = (setOf (.agg []) ((l.take k).map forK) : DataW Unit).put (forK f) (.agg [])) := Lib.hid (by rw [take_snoc l k f hf, List.map_append, List.map_cons, List.map_nil, setOf_snoc])
      have HK := Lib.hid (key_for f (HF.out f (List.mem_of_getElem? hf)))
      obtain ⟨b, off, rfl, hbw, hc, _⟩ := HL.out k f hf
      have hc := hc.below hB.out hbw
      have hbr := Nat.lt_of_lt_of_le hbw hB.out.size
      obtain ⟨c0, c1, c2⟩ := For_at hc
      have hsz := hB.out.size
      have hwm := hown.lt
      have HB1 := Lib.hid (hB.out.alloc hsz (.cells (forC f) 85))
      clear hc HF hf
      unfold forV at HK
      unfold forC at *
      have n1 : (k : Int) < (n : Int) := by omega
      go_wp2_with (first
        | (at_mapUpdate; refine wpList_mapUpdate_own _ rfl _ _ _ 202 rfl 85 143 key85 Tryz.underlying202 unitE w.heap.size k _ rfl (hown.alloc _) (by unfold maxLen; omega) _ _ _ rfl rfl HK.out (.agg []) [] unitElem_mk ?_; intro w1 hown1 hgrow1)
        | go_in)
      have hB2 : Hid (Below w.heap.size w w1) := Lib.hid (HB1.out.grown hgrow1 (by simp; omega) (fun j hj => by cases hj; exact Nat.le_refl _))
      have hown2 : w1.ownsMap Tryz.prog 85 unitE w.heap.size (k + 1) (setOf (.agg []) ((l.take (k + 1)).map forK)) := by rw [HS.out]; exact hown1
      clear hown1 hgrow1
      go_wp2
      go_roundw
      case rel => exact ⟨k + 1, by go_num, by omega, hown2, hB2⟩
      case measure => simp [intOf]; omega
    · obtain rfl : k = n := by omega
      have HT : Hid (l.take k = l) := Lib.hid (List.take_of_length_le (by rw [← HN.out]; exact Nat.le_refl _))
      rw [HT.out] at hown
      go_wp2_with (first
        | (at_len; refine wpList_len_own _ rfl _ 202 rfl 85 143 Tryz.underlying202 unitE w.heap.size k _ rfl hown ?_)
        | go_in)
      go_wp2
      go_ret
      exact ⟨by
        rw [← HO.out]
        show Ending.returned (.bool _) = Ending.returned (.bool _)
        rw [Ending.returned.injEq, Value.bool.injEq, Bool.eq_iff_iff]
        simp
        exact Int.ofNat_inj, hB.out⟩

set_option maxRecDepth 100000 in
set_option maxHeartbeats 1000000 in
theorem onceInt_any (a : Option Addr) (c : Nat) (l : List Int) (w : World) (hl : RowInt w a l) (hn : l.length ≤ 1048576) (hF : ∀ f, f ∈ l → I64 f) :
    Calls Tryz.prog 132 #[.slice a l.length c] w fun e w' => e = .returned (.bool (onceA (fun a b => a == b) [] l)) ∧ Below w.heap.size w w' := by
  have HL := Lib.hid hl
  have HF := Lib.hid hF
  have HO : Hid (decide (size (setOf (.agg []) (l.map (Lit.int .i64)) : DataW Unit) = l.length) = onceA (fun a b => a == b) [] l) := Lib.hid (by
    rw [size_setOf _ _ (fun x hx => by obtain ⟨f, hf, rfl⟩ := List.mem_map.1 hx; exact key3.key (keyOf_int_mk Tryz.underlying3 (wf_int (hF f hf))))]
    have h1 := fold_once (l.map (Lit.int .i64)) []
    simp only [List.length_nil, Nat.zero_add, List.length_map] at h1
    rw [h1]
    exact once_map (Lit.int .i64) (fun a b => a == b) l [] (fun a b ha hb => intK_same a b))
  clear hl hF
  obtain ⟨n, hln⟩ : ∃ n, n = l.length := ⟨_, rfl⟩
  have HN := Lib.hid hln
  rw [← hln] at hn ⊢
  rw [← hln] at HO
  clear hln
  have hmm := @run_makeMap Tryz.prog
  have hM0 := World.ownsMap_made w Tryz.prog 3 unitE
  have hB0 : Hid (Below w.heap.size w (w.alloc (.map #[] 0))) := Lib.hid ((Below.refl _ _).alloc (Nat.le_refl _) _)
  go_enter Tryz.func132, Tryz.ntmps132
  go_wp2
  go_loopw [9] (fun i wr => ∃ (k : Nat), i = .int .i64 k ∧ k ≤ n ∧ wr.ownsMap Tryz.prog 3 unitE w.heap.size k (setOf (.agg []) ((l.take k).map (Lit.int .i64))) ∧ Hid (Below w.heap.size w wr))
    (fun i _ => n - (intOf i).toNat)
  case atStart => exact ⟨0, rfl, Nat.zero_le _, hM0, hB0⟩
  case round =>
    clear hM0 hB0
    obtain ⟨k, rfl, hk, hown, hB⟩ := hrel
    by_cases hlt : k < n
    · obtain ⟨f, hf⟩ : ∃ f, l[k]? = some f := ⟨_, List.getElem?_eq_getElem (by rw [← HN.out]; exact hlt)⟩
      have HS : Hid (setOf (.agg []) ((l.take (k + 1)).map (Lit.int .i64)) = (setOf (.agg []) ((l.take k).map (Lit.int .i64)) : DataW Unit).put (.int .i64 f) (.agg [])) := Lib.hid (by rw [take_snoc l k f hf, List.map_append, List.map_cons, List.map_nil, setOf_snoc])
      have HK := Lib.hid (keyOf_int_mk Tryz.underlying3 (wf_int (HF.out f (List.mem_of_getElem? hf))))
      obtain ⟨b, off, rfl, hbw, hc, _⟩ := HL.out k f hf
      have hc := hc.below hB.out hbw
      have hbr := Nat.lt_of_lt_of_le hbw hB.out.size
      have c0 := Int_at hc
      rw [Nat.mul_one] at c0
      have hsz := hB.out.size
      have hwm := hown.lt
      clear hc HF hf
      have n1 : (k : Int) < (n : Int) := by omega
      go_wp2_with (first
        | (at_mapUpdate; refine wpList_mapUpdate_own _ rfl _ _ _ 203 rfl 3 143 key3 Tryz.underlying203 unitE w.heap.size k _ rfl hown (by unfold maxLen; omega) _ _ _ rfl rfl HK.out (.agg []) [] unitElem_mk ?_; intro w1 hown1 hgrow1)
        | go_in)
      have hB2 : Hid (Below w.heap.size w w1) := Lib.hid (hB.out.grown hgrow1 (by omega) (fun j hj => by cases hj; exact Nat.le_refl _))
      have hown2 : w1.ownsMap Tryz.prog 3 unitE w.heap.size (k + 1) (setOf (.agg []) ((l.take (k + 1)).map (Lit.int .i64))) := by rw [HS.out]; exact hown1
      clear hown1 hgrow1
      go_wp2
      go_roundw
      case rel => exact ⟨k + 1, by go_num, by omega, hown2, hB2⟩
      case measure => simp [intOf]; omega
    · obtain rfl : k = n := by omega
      have HT : Hid (l.take k = l) := Lib.hid (List.take_of_length_le (by rw [← HN.out]; exact Nat.le_refl _))
      rw [HT.out] at hown
      go_wp2_with (first
        | (at_len; refine wpList_len_own _ rfl _ 203 rfl 3 143 Tryz.underlying203 unitE w.heap.size k _ rfl hown ?_)
        | go_in)
      go_wp2
      go_ret
      exact ⟨by
        rw [← HO.out]
        show Ending.returned (.bool _) = Ending.returned (.bool _)
        rw [Ending.returned.injEq, Value.bool.injEq, Bool.eq_iff_iff]
        simp
        exact Int.ofNat_inj, hB.out⟩
end Go.Proofs.YtodnlcbnbkkanaaGreatDoor
end
section
namespace Go.Proofs.YtodnlcbnbkkanaaGreatDoor
open Go Go.RowKit

set_option maxRecDepth 100000 in
set_option maxHeartbeats 1000000 in
theorem notStr_any (x : ByteArray) (p : Bool) (K : Nat) (lb : Array Value) (eg : ∀ args w, (callFunc K args).run Tryz.prog w = .ok (.enter K args) w) (B : Nat) (w : World) (hb : w.cell? ⟨B, 0, none⟩ = some (.func (.func K) #[] lb))
    (H : ∀ W, Below w.heap.size w W → Calls Tryz.prog K (#[strV x] ++ lb) W fun e w' => e = .returned (.bool p) ∧ Below W.heap.size W w') :
    Calls Tryz.prog 146 #[strV x, .pointer (some ⟨B, 0, none⟩)] w fun e w' => e = .returned (.bool (!p)) ∧ Below w.heap.size w w' := by
  have hB := lt_of_cell hb
  have HH := Lib.hid H
  clear H
  unfold strV at *
  go_enter Tryz.func146, Tryz.ntmps146
  go_wp2_with (refine (HH.out _ ?_).mono ?_)
  · exact (Below.refl _ _)
  rintro e w' ⟨rfl, hB2⟩
  go_wp2
  go_ret
  exact ⟨rfl, (Below.refl _ _).trans (hB2.mono (by simp))⟩

set_option maxRecDepth 100000 in
set_option maxHeartbeats 4000000 in
theorem indexStr_any (a : Option Addr) (c : Nat) (l : List ByteArray) (q : ByteArray → Bool) (K : Nat) (lb : Array Value) (eg : ∀ args w, (callFunc K args).run Tryz.prog w = .ok (.enter K args) w) (w : World)
    (hl : RowStr w a l) (hn : l.length ≤ 1048576) (H : Says strV q l K lb w) :
    Calls Tryz.prog 163 #[.slice a l.length c, .func (.func K) #[] lb] w fun e w' => e = .returned (.int .i64 (firstI q l)) ∧ Below w.heap.size w w' := by
  have HL := Lib.hid hl
  have HH := Lib.hid H
  clear hl H
  obtain ⟨n, hln⟩ : ∃ n, n = l.length := ⟨_, rfl⟩
  rw [← hln] at hn ⊢
  have HN := Lib.hid hln
  clear hln
  go_enter Tryz.func163, Tryz.ntmps163
  go_wp2
  go_loopw [8] (fun i wr => ∃ (m : Nat), i = .int .i64 m ∧ m ≤ n ∧ Hid (∀ (j : Nat) y, j < m → l[j]? = some y → q y = false) ∧ Hid (Below w.heap.size w wr))
    (fun i _ => n - (intOf i).toNat)
  case atStart => exact ⟨0, rfl, Nat.zero_le _, Lib.hid (fun j y hj => by omega), Below.refl _ _⟩
  case round =>
    obtain ⟨m, rfl, hm, hS, hB⟩ := hrel
    by_cases hlt : m < n
    · have HX : Hid (∃ x, l[m]? = some x) := Lib.hid ⟨_, List.getElem?_eq_getElem (by rw [← HN.out]; exact hlt)⟩
      obtain ⟨x, hx⟩ := HX.out
      have HX := Lib.hid hx
      clear hx
      obtain ⟨b, off, rfl, hbw, hc, _⟩ := HL.out m x HX.out
      have hc := hc.below hB.out hbw
      have hbr := Nat.lt_of_lt_of_le hbw hB.out.size
      have c0 := Str_at hc
      rw [Nat.mul_one] at c0
      clear hc
      have HC := Lib.hid (HH.out x (List.mem_of_getElem? HX.out) wr hB.out)
      have HQ : Hid (∀ r, q x = r → r = false → ∀ (j : Nat) y, j < m + 1 → l[j]? = some y → q y = false) := Lib.hid (fun r hr hf j y hj hy => by
        by_cases e : j = m
        · subst e
          rw [HX.out] at hy
          cases hy
          rw [hr, hf]
        · exact hS.out j y (by omega) hy)
      have HT : Hid (q x = true → firstI q l = m) := Lib.hid (fun h => firstI_hit q l m x HX.out h hS.out)
      generalize q x = r at HC HQ HT
      clear HX hS HH HL
      unfold strV at *
      have n1 : (m : Int) < (n : Int) := by omega
      cases r with
      | true =>
        have HT2 := Lib.hid (HT.out rfl)
        clear HQ HT
        go_wp2_with fail
        refine HC.out.mono ?_
        rintro e w3 ⟨rfl, hB3⟩
        have HB3 := Lib.hid (hB.out.trans (hB3.mono hB.out.size))
        clear hB3
        go_wp2
        go_ret
        exact ⟨by rw [HT2.out]; rfl, HB3.out⟩
      | false =>
        have HQ2 := Lib.hid (HQ.out false rfl rfl)
        clear HT HQ
        go_wp2_with fail
        refine HC.out.mono ?_
        rintro e w3 ⟨rfl, hB3⟩
        have HB3 := Lib.hid (hB.out.trans (hB3.mono hB.out.size))
        clear hB3
        go_wp2
        go_roundw
        case rel => exact ⟨m + 1, by go_num, by omega, HQ2, HB3⟩
        case measure => simp [intOf]; omega
    · obtain rfl : m = n := by omega
      have HT := Lib.hid (firstI_none q l (fun j y hy => hS.out j y (by have := (List.getElem?_eq_some_iff.1 hy).1; have := HN.out; omega) hy))
      clear hS
      go_wp2
      go_ret
      exact ⟨by rw [HT.out]; rfl, hB.out⟩

set_option maxRecDepth 100000 in
set_option maxHeartbeats 1000000 in
theorem containsStr_any (a : Option Addr) (c : Nat) (l : List ByteArray) (q : ByteArray → Bool) (K : Nat) (lb : Array Value) (eg : ∀ args w, (callFunc K args).run Tryz.prog w = .ok (.enter K args) w) (w : World)
    (hl : RowStr w a l) (hn : l.length ≤ 1048576) (H : Says strV q l K lb w) :
    Calls Tryz.prog 145 #[.slice a l.length c, .func (.func K) #[] lb] w fun e w' => e = .returned (.bool (l.any q)) ∧ Below w.heap.size w w' := by
  have HC := Lib.hid (indexStr_any a c l q K lb eg w hl hn H)
  have HI := firstI_any q l
  obtain ⟨i, hi⟩ : ∃ i, i = firstI q l := ⟨_, rfl⟩
  rw [← hi] at HC HI
  clear hi hl H
  generalize l.any q = r at HI ⊢
  generalize l.length = n at *
  go_enter Tryz.func145, Tryz.ntmps145
  go_wp2_with fail
  refine HC.out.mono ?_
  rintro e w3 ⟨rfl, hB3⟩
  go_wp2
  go_ret
  exact ⟨rfl, hB3⟩

set_option maxRecDepth 100000 in
set_option maxHeartbeats 1000000 in
theorem allStr_any (a : Option Addr) (c : Nat) (l : List ByteArray) (p : ByteArray → Bool) (K : Nat) (lb : Array Value) (eg : ∀ args w, (callFunc K args).run Tryz.prog w = .ok (.enter K args) w) (w : World)
    (hl : RowStr w a l) (hn : l.length ≤ 1048576) (H : Says strV p l K lb w) :
    Calls Tryz.prog 122 #[.slice a l.length c, .func (.func K) #[] lb] w fun e w' => e = .returned (.bool (l.all p)) ∧ Below w.heap.size w w' := by
  have hB1 : Below w.heap.size w (w.alloc (.cells #[.func (.func K) #[] lb] 168)) := (Below.refl _ _).alloc (Nat.le_refl _) _
  have HC := Lib.hid (containsStr_any a c l (fun x => !p x) 146 #[.pointer (some ⟨w.heap.size, 0, none⟩)] (fun _ _ => by kernel_rfl) (w.alloc (.cells #[.func (.func K) #[] lb] 168)) (RowOf.belowN hl hB1) hn (fun x hx W hW =>
    notStr_any x (p x) K lb eg _ W (by have hb := Blk.new w 168 #[.func (.func K) #[] lb]; exact (hb.below hW hb.lt).cell 0) (fun V hV => H x hx V (hB1.trans ((hW.trans (hV.mono hW.size)).mono (by simp))))))
  have HA := any_not p l
  have HB := Lib.hid hB1
  clear hl H hB1
  generalize l.any (fun x => !p x) = r at HC HA
  rw [← HA]
  clear HA
  generalize l.length = n at *
  go_enter Tryz.func122, Tryz.ntmps122
  go_wp2_with fail
  refine HC.out.mono ?_
  rintro e w3 ⟨rfl, hB3⟩
  go_wp2
  go_ret
  exact ⟨rfl, HB.out.trans (hB3.mono HB.out.size)⟩
end Go.Proofs.YtodnlcbnbkkanaaGreatDoor
end
section
namespace Go.Proofs.YtodnlcbnbkkanaaGreatDoor
open Go Go.RowKit

def forbidB (g : GramM) (f : ForM) : Bool := numB f.parent g.prods.length && (numB f.child g.prods.length && (match g.prods[f.parent.toNat]?, g.prods[f.child.toNat]? with | some p, some c => standB p f.at_ c | _, _ => false))

theorem numB_nat {n : Int} {m : Nat} (h : numB n m = true) : ∃ k : Nat, n = k ∧ k < m := by
  unfold numB at h
  simp at h
  exact ⟨n.toNat, by omega, by omega⟩

theorem Blk.for {w : World} {B : Nat} {f : ForM} (h : Blk w B 85 (forC f)) : w.cell? ⟨B, 0, none⟩ = some (.int .i64 f.parent) ∧ w.cell? ⟨B, 1, none⟩ = some (.int .i64 f.at_) ∧ w.cell? ⟨B, 2, none⟩ = some (.int .i64 f.child) := ⟨h.cell 0, h.cell 1, h.cell 2⟩

set_option maxRecDepth 100000 in
set_option maxHeartbeats 1000000 in
theorem f83_any (f : ForM) (g : GramM) (B : Nat) (w : World) (hg : GIn w g) (hf : Fit g) (hF : FitF f) (hb : Blk w B 27 (gramC g)) :
    Calls Tryz.prog 130 #[forV f, .pointer (some ⟨B, 0, none⟩)] w fun e w' => e = .returned (.bool (forbidB g f)) ∧ Below w.heap.size w w' := by
  have HB : Hid (Below w.heap.size w (w.alloc (.cells (forC f) 85))) := Lib.hid ((Below.refl _ _).alloc (Nat.le_refl _) _)
  have hlt := hb.lt
  obtain ⟨c0, c1, _, _, _⟩ := hb.gram
  have HG := Lib.hid hg
  have HF := Lib.hid hf
  have HFF := Lib.hid hF
  have HR : Hid (forbidB g f = (numB f.parent g.prods.length && (numB f.child g.prods.length && (match g.prods[f.parent.toNat]?, g.prods[f.child.toNat]? with | some p, some c => standB p f.at_ c | _, _ => false)))) := Lib.hid rfl
  have HN1 := fun w' => Lib.hid (num_any f.parent g.prods.length w')
  have HN2 := fun w' => Lib.hid (num_any f.child g.prods.length w')
  have HB1 := Lib.hid (Blk.new w 85 (forC f))
  clear hg hf hF hb
  generalize forbidB g f = q at *
  obtain ⟨fp, fa, fc⟩ := f
  unfold forV forC at *
  dsimp only at *
  cases h1 : numB fp g.prods.length with
  | false =>
    have HR2 : Hid (q = false) := Lib.hid (by rw [HR.out, h1]; rfl)
    rw [h1] at HN1
    clear HR h1 HN2 HB1
    go_enter Tryz.func130, Tryz.ntmps130
    go_wp2_with (go_at_call 90; refine (HN1 _).out.mono ?_; rintro e w3 ⟨rfl, rfl⟩)
    go_ret
    exact ⟨by rw [HR2.out]; try rfl, HB.out⟩
  | true =>
    cases h2 : numB fc g.prods.length with
    | false =>
      have HR2 : Hid (q = false) := Lib.hid (by rw [HR.out, h1, h2]; rfl)
      rw [h1] at HN1
      rw [h2] at HN2
      clear HR h1 h2 HB1
      go_enter Tryz.func130, Tryz.ntmps130
      go_wp2_with (first | (go_at_call_of 90 (fp); (with_reducible refine (HN1 _).out.mono ?_); rintro e w3 ⟨rfl, rfl⟩) | (go_at_call_of 90 (fc); (with_reducible refine (HN2 _).out.mono ?_); rintro e w3 ⟨rfl, rfl⟩))
      go_ret
      exact ⟨by rw [HR2.out]; try rfl, HB.out⟩
    | true =>
      obtain ⟨i, rfl, hi⟩ := numB_nat h1
      obtain ⟨j, rfl, hj⟩ := numB_nat h2
      obtain ⟨p, hp⟩ : ∃ p, g.prods[i]? = some p := ⟨_, List.getElem?_eq_getElem hi⟩
      obtain ⟨c, hc⟩ : ∃ c, g.prods[j]? = some c := ⟨_, List.getElem?_eq_getElem hj⟩
      have HR2 : Hid (q = standB p fa c) := Lib.hid (by rw [HR.out, h1, h2, Int.toNat_natCast, Int.toNat_natCast, hp, hc]; rfl)
      rw [h1] at HN1
      rw [h2] at HN2
      obtain ⟨b, off, hpa, hbw, hcp, hpi⟩ := HG.out.prods i p hp
      obtain ⟨b', off', hpa', hbw', hcc, _⟩ := HG.out.prods j c hc
      rw [hpa] at hpa' c1
      cases hpa'
      have hcp := hcp.below HB.out hbw
      have hcc := hcc.below HB.out hbw
      obtain ⟨p0, p1, p2, p3, p4, p5, p6⟩ := Prod_at hcp
      obtain ⟨d0, d1, d2, d3, d4, d5, d6⟩ := Prod_at hcc
      have HC := fun W (hW : Below w.heap.size w W) => standMay_any p c fa W (hpi.below hW) (HF.out.right p (List.mem_of_getElem? hp)) HFF.out.at_.1 HFF.out.at_.2
      have HC2 := fun w' (hW : Below w.heap.size w w') => Lib.hid (HC w' hW)
      have HC3 := Lib.hid HC2
      have hbw2 : b < (w.alloc (.cells #[.int .i64 i, .int .i64 fa, .int .i64 j] 85)).heap.size := by simp; omega
      have hi2 : (i : Int) < (g.prods.length : Int) := by omega
      have hj2 : (j : Int) < (g.prods.length : Int) := by omega
      obtain ⟨e0, e1, e2⟩ := Blk.for (f := ⟨i, fa, j⟩) HB1.out
      dsimp only at e0 e1 e2
      clear HR h1 h2 hcp hcc hpi HC HC2 hp hc HG HF HFF hi hj hpa
      generalize standB p fa c = r at *
      generalize g.prods.length = n at *
      unfold prodV prodC at *
      go_enter Tryz.func130, Tryz.ntmps130
      go_wp2_with (first | (go_at_call_of 90 (i); (with_reducible refine (HN1 _).out.mono ?_); rintro e w3 ⟨rfl, rfl⟩) | (go_at_call_of 90 (j); (with_reducible refine (HN2 _).out.mono ?_); rintro e w3 ⟨rfl, rfl⟩))
      refine wp_region_still_tail 14 (by kernel_rfl) (by kernel_rfl) ?_
      show wpStill _ _ (World.drew (w.alloc (.cells #[.int .i64 i, .int .i64 fa, .int .i64 j] 85))) _ _ _
      have HBd := Lib.hid HB.out.drew
      have hlB : B < (w.alloc (.cells #[.int .i64 i, .int .i64 fa, .int .i64 j] 85)).heap.size := by simp; omega
      obtain ⟨W, hW⟩ : ∃ W, W = World.drew (w.alloc (.cells #[.int .i64 i, .int .i64 fa, .int .i64 j] 85)) := ⟨_, rfl⟩
      have kW : ∀ a, W.cell? a = (w.alloc (.cells #[.int .i64 i, .int .i64 fa, .int .i64 j] 85)).cell? a := fun a => by rw [hW]; rfl
      rw [← hW] at HBd ⊢
      simp only [← kW] at p0 p1 p2 p3 p4 p5 p6 d0 d1 d2 d3 d4 d5 d6 e0 e1 e2
      have c1' := (HBd.out.cell (p := ⟨B, 1, none⟩) hlt).trans c1
      have hs : W.heap.size = w.heap.size + 1 := by rw [hW]; simp
      have hbw3 : b < W.heap.size := by omega
      have hlB : B < W.heap.size := by omega
      have HW := Lib.hid hW
      clear kW hW hbw2 c1 c0 hs
      simp only [List.take_succ_cons, List.take_zero, List.drop_succ_cons, List.drop_zero]
      repeat still_step
      refine wpStill_nil ?_
      show wpList _ _ _ _ _ (World.drew (w.alloc (.cells #[.int .i64 i, .int .i64 fa, .int .i64 j] 85)))
      rw [← HW.out]
      clear HW
      go_wp2_with fail
      with_reducible refine (HC3.out _ HBd.out).out.mono ?_
      rintro e w3 ⟨rfl, hB3⟩
      go_wp2
      go_ret
      exact ⟨by rw [HR2.out]; try rfl, HBd.out.trans (hB3.mono HBd.out.size)⟩
end Go.Proofs.YtodnlcbnbkkanaaGreatDoor
end
section
namespace Go.Proofs.YtodnlcbnbkkanaaGreatDoor
open Go Go.RowKit

structure KeepUp (B : Nat) (W W' : World) : Prop where
  size : W.heap.size ≤ W'.heap.size
  up : ∀ (k : Nat) (o : Obj), B ≤ k → W.heap[k]? = some o → W'.heap[k]? = some o
theorem KeepUp.refl (B : Nat) (W : World) : KeepUp B W W := ⟨Nat.le_refl _, fun _ _ _ h => h⟩
theorem KeepUp.trans {B : Nat} {X Y Z : World} (h : KeepUp B X Y) (k : KeepUp B Y Z) : KeepUp B X Z :=
  ⟨Nat.le_trans h.size k.size, fun i o hB ho => k.up i o hB (h.up i o hB ho)⟩
theorem KeepUp.mono {A B : Nat} {X Y : World} (h : KeepUp A X Y) (hAB : A ≤ B) : KeepUp B X Y := ⟨h.size, fun i o hB ho => h.up i o (by omega) ho⟩
theorem KeepUp.of_below {B n : Nat} {X Y : World} (h : Below n X Y) (hn : X.heap.size ≤ n) : KeepUp B X Y :=
  ⟨h.size, fun i o _ ho => (h.block i (by have := (Array.getElem?_eq_some_iff.1 ho).1; omega)).trans ho⟩
theorem KeepUp.put {B l : Nat} {X : World} {o : Obj} (hl : l < B) : KeepUp B X (X.putObj l o) :=
  ⟨(grownBy_putObj' _ _ _).size, fun i o' hB ho => (World.putObj_heap_other (by omega)).trans ho⟩
theorem KeepUp.set {B b i : Nat} {X : World} (hb : b < B) (v : Value) : KeepUp B X (X.setCell ⟨b, i, none⟩ v) :=
  ⟨by rw [World.size_setCell]; exact Nat.le_refl _, fun k o hk ho => (Below.heap_setCell X ⟨b, i, none⟩ v k (by show k ≠ b; omega)).trans ho⟩
theorem KeepUp.drew {B : Nat} {X Y : World} (h : KeepUp B X Y) : KeepUp B X Y.drew := ⟨h.size, h.up⟩
theorem KeepUp.setR {B b i : Nat} {X Y : World} (h : KeepUp B X Y) (hb : b < B) (v : Value) : KeepUp B X (Y.setCell ⟨b, i, none⟩ v) := h.trans (KeepUp.set hb v)
theorem putB {n D : Nat} {w W : World} {o : Obj} (h : Below n w W) (hD : n ≤ D) : Below n w (W.putObj D o) :=
  ⟨h.os, h.tape, h.output, Nat.le_trans h.size (grownBy_putObj' _ _ _).size, fun k hk => (World.putObj_heap_other (by omega)).trans (h.block k hk)⟩

def LowSeq {α : Type} (n : Nat) (P : Program) (g : Nat) (lb : Array Value) (encs : α → Array Value) (xs : List α) (R : World → Prop) (w : World) : Prop :=
  ∀ (l : Nat) (J Jx : List α → World → Prop) (W : World), Below w.heap.size w W → (∀ s A, J s A → R A) →
    (∀ s A B, J s A → Below W.heap.size A B → J s B) → (∀ s A B, Jx s A → Below W.heap.size A B → Jx s B) →
    (∀ pre x W1, pre ++ [x] <+: xs → J pre W1 → YieldAt Fence.wide (n - 1) P l (encs x) W1 fun e W' =>
      (e = .returned (.bool true) ∧ J (pre ++ [x]) W' ∧ KeepUp W.heap.size W1 W') ∨ (e = .returned (.bool false) ∧ Jx (pre ++ [x]) W' ∧ KeepUp W.heap.size W1 W')) →
    J [] W → CallsIn Fence.wide n P g (#[.func (.yield l) #[] #[]] ++ lb) W fun e W' => (∃ v, e = .returned v) ∧ (J xs W' ∨ ∃ pre, pre <+: xs ∧ Jx pre W')

def lowPost {α : Type} (B : Nat) (I : List α → World → Prop) (Ix : Code → List α → World → Prop) (ys : List α) (W : World) : Exit → Act → World → Prop
  | .normal, _, W' => KeepUp B W W' ∧ I ys W'
  | .ret, _, W' => KeepUp B W W' ∧ Ix .ret ys W'
  | .exit id, _, W' => KeepUp B W W' ∧ Ix (.exit id) ys W'
  | .goto t, _, W' => KeepUp B W W' ∧ Ix (.goto t) ys W'
  | .panic _, _, _ => False
  | .outgrown, _, _ => False

theorem rangeFunc_low {α : Type} {P : Program} {n : Nat} {g : Operand} {ps : Array Tmp} {assign body : Code} {Q : Exit → Act → World → Prop} {a : Act} {w : World}
    (h1 : 1 ≤ n) {gf : Nat} {lb : Array Value} (hg : a.eval g = .func (.func gf) #[] lb) (eg : ∀ args w, (callFunc gf args).run P w = .ok (.enter gf args) w)
    {encs : α → Array Value} {xs : List α} {R : World → Prop} (hseq : LowSeq (n - 1) P gf lb encs xs R w) (hps : ∀ x, (encs x).size = ps.size)
    (I : List α → World → Prop) (Ix : Code → List α → World → Prop) (hI : ∀ s A B, I s A → Below w.heap.size A B → I s B) (hIx : ∀ c s A B, Ix c s A → Below w.heap.size A B → Ix c s B) (hIR : ∀ s A, I s A → R A) (h0 : I [] w)
    (hround : ∀ (l : Nat) (pre : List α) (x : α) (W : World), pre ++ [x] <+: xs → I pre W → w.heap.size + 2 ≤ W.heap.size →
      assign.wpIn (Fence.wide.inRound l) (n - 1 - 1) P (Exit.then (fun a₁ W₁ => KeepUp w.heap.size W W₁ ∧ ∀ W₂, (∃ o, W₂ = W₁.putObj (w.heap.size + 1) o) → (∃ r, W₁.heap[w.heap.size + 1]? = some (.loop r)) →
        body.wpIn (Fence.wide.inRound l) (n - 1 - 1) P (lowPost w.heap.size I Ix (pre ++ [x]) W₂) a₁ W₂) (fun _ _ _ => False))
        { tmps := (ps.zip (encs x)).foldl (fun t (p, v) => t.setIfInBounds p v) a.tmps, defers := [] } W)
    (hdone : ∀ (D : Nat) (W : World), w.heap.size ≤ D → I xs W → W.heap[D]? = some (.deferred (some [])) → Q .normal { a with defers := { target := .collected D, args := #[] } :: a.defers } W)
    (hstop : ∀ (D : Nat) (c : Code) (pre : List α) (W : World), w.heap.size ≤ D → pre <+: xs → Ix c pre W → W.heap[D]? = some (.deferred (some [])) → c.wpIn Fence.wide n P Q { a with defers := { target := .collected D, args := #[] } :: a.defers } W) :
    (Code.rangeFunc g ps assign body).wpIn Fence.wide n P Q a w := by
  refine wpIn_rangeFunc fun fn hfn => ?_
  obtain ⟨rec, hrec⟩ : ∃ rec : LoopState → Option Code → Loop, rec = fun st pe => { state := st, pending := pe, fn, tmps := a.tmps, params := ps, assign, body, defers := w.heap.size } := ⟨_, rfl⟩
  obtain ⟨W1, hW1⟩ : ∃ W1, W1 = (w.alloc (.deferred (some []))).alloc (.loop (rec .ready none)) := ⟨_, rfl⟩
  have hs1 : W1.heap.size = w.heap.size + 2 := by rw [hW1]; simp
  have hb1 : Below w.heap.size w W1 := by rw [hW1]; exact ((Below.refl _ w).alloc (Nat.le_refl _) _).alloc (by simp) _
  have hl1 : W1.heap[w.heap.size + 1]? = some (.loop (rec .ready none)) := by
    have h := World.alloc_heap_new (w.alloc (.deferred (some []))) (.loop (rec .ready none))
    rw [World.size_alloc] at h
    rw [hW1]; exact h
  have hd1 : W1.heap[w.heap.size]? = some (.deferred (some [])) := by
    rw [hW1]; exact (Below.heap_alloc _ _ _ (by simp)).trans (World.alloc_heap_new w _)
  refine ⟨w.heap.size + 1, [{ target := .collected w.heap.size, args := #[] }], W1, { target := .fn (.func gf) lb, args := #[.func (.yield (w.heap.size + 1)) #[] #[]] }, W1, gf,
    #[.func (.yield (w.heap.size + 1)) #[] #[]] ++ lb, W1, ?_, ?_, fun _ _ => trivial, ?_, fun _ => h1, ?_⟩
  · rw [hW1, hrec]; exact run_enterLoop_outer _ _ _ _ _
  · simp only [resolve, hg]
    simp [go_sem]
  · simp [invoke, go_sem, eg]
  · -- what the owner says, beside the loop's two blocks
    have hbook : ∀ {A B : World} {k : Nat} {o : Obj}, k < w.heap.size + 2 → A.heap[k]? = some o → Below W1.heap.size A B → B.heap[k]? = some o := fun hk ho hB => (hB.block _ (by omega)).trans ho
    have hput : ∀ {W : World} {s : List α} (o : Obj), I s W → I s (W.putObj (w.heap.size + 1) o) := fun {W s} o h => hI s W _ h ⟨rfl, rfl, rfl, (grownBy_putObj' _ _ _).size, fun k hk => World.putObj_heap_other (by omega)⟩
    have hputx : ∀ {W : World} {s : List α} {c : Code} (o : Obj), Ix c s W → Ix c s (W.putObj (w.heap.size + 1) o) := fun {W s c} o h => hIx c s W _ h ⟨rfl, rfl, rfl, (grownBy_putObj' _ _ _).size, fun k hk => World.putObj_heap_other (by omega)⟩
    refine (hseq (w.heap.size + 1)
      (fun pre W => I pre W ∧ W.heap[w.heap.size + 1]? = some (.loop (rec .ready none)) ∧ W.heap[w.heap.size]? = some (.deferred (some [])))
      (fun pre W => ∃ c, Ix c pre W ∧ W.heap[w.heap.size + 1]? = some (.loop (rec .done (some c))) ∧ W.heap[w.heap.size]? = some (.deferred (some [])))
      W1 hb1 (fun s A h => hIR s A h.1)
      (fun s A B h hB => ⟨hI s A B h.1 (hB.mono (by omega)), hbook (by omega) h.2.1 hB, hbook (by omega) h.2.2 hB⟩)
      (fun s A B h hB => by
        obtain ⟨c, hc, hl, hd⟩ := h
        exact ⟨c, hIx c s A B hc (hB.mono (by omega)), hbook (by omega) hl hB, hbook (by omega) hd hB⟩)
      ?_ ⟨hI [] w W1 h0 hb1, hl1, hd1⟩).mono ?_
    · rintro pre x W hpre ⟨hi, hl, hd⟩
      have hlt : w.heap.size + 1 < W.heap.size := (Array.getElem?_eq_some_iff.1 hl).1
      have hy := run_yield (P := P) (args := encs x) hl (by rw [hrec]; exact hps x)
      rw [hrec] at hy
      refine ⟨fn, _, assign, body, hy, roundIn_of_wpIn hfn (wpIn_mono (hround (w.heap.size + 1) pre x W hpre hi (by omega)) ?_)⟩
      rintro e a1 Wa hp
      cases e with
      | normal =>
        obtain ⟨hka, hbd⟩ := hp
        have hla := hka.up _ _ (by omega) hl
        have hda := hka.up _ _ (Nat.le_refl _) hd
        refine ⟨_, run_beginRound hla (by rw [hrec]), wpIn_mono (hbd _ ⟨_, rfl⟩ ⟨_, hla⟩) ?_⟩
        have hlta : w.heap.size + 1 < Wa.heap.size := (Array.getElem?_eq_some_iff.1 hla).1
        have hl2 : (Wa.putObj (w.heap.size + 1) (.loop { rec .ready none with state := .busy })).heap[w.heap.size + 1]? = some (.loop { rec .ready none with state := .busy }) := World.putObj_heap_same hlta
        have hd2 : (Wa.putObj (w.heap.size + 1) (.loop { rec .ready none with state := .busy })).heap[w.heap.size]? = some (.deferred (some [])) := (World.putObj_heap_other (by omega)).trans hda
        have hend : ∀ (jump : Option Code) (W3 : World), KeepUp w.heap.size (Wa.putObj (w.heap.size + 1) (.loop { rec .ready none with state := .busy })) W3 →
            (Instr.endRound (w.heap.size + 1) jump).run P W3 = .ok (.bool jump.isNone) (W3.putObj (w.heap.size + 1) (.loop (rec (if jump.isNone then .ready else .done) jump))) ∧
            (W3.putObj (w.heap.size + 1) (.loop (rec (if jump.isNone then .ready else .done) jump))).heap[w.heap.size + 1]? = some (.loop (rec (if jump.isNone then .ready else .done) jump)) ∧
            (W3.putObj (w.heap.size + 1) (.loop (rec (if jump.isNone then .ready else .done) jump))).heap[w.heap.size]? = some (.deferred (some [])) := fun jump W3 hk3 => by
          have hl3 := hk3.up _ _ (by omega) hl2
          have hd3 := hk3.up _ _ (Nat.le_refl _) hd2
          have he := run_endRound (P := P) jump hl3
          rw [hrec] at he ⊢
          exact ⟨he, World.putObj_heap_same (Array.getElem?_eq_some_iff.1 hl3).1, (World.putObj_heap_other (by omega)).trans hd3⟩
        rintro e2 a3 W3 hq
        cases e2 with
        | normal =>
          obtain ⟨hk3, hi3⟩ := hq
          obtain ⟨hr, hl4, hd4⟩ := hend none W3 hk3
          refine ⟨_, _, hr, .inl ⟨rfl, ⟨hput _ hi3, hl4, hd4⟩, ?_⟩⟩
          exact ((hka.mono (by omega)).trans (KeepUp.put (by omega))).trans ((hk3.mono (by omega)).trans (KeepUp.put (by omega)))
        | ret =>
          obtain ⟨hk3, hi3⟩ := hq
          obtain ⟨hr, hl4, hd4⟩ := hend (some .ret) W3 hk3
          exact ⟨_, _, hr, .inr ⟨rfl, ⟨.ret, hputx _ hi3, hl4, hd4⟩, ((hka.mono (by omega)).trans (KeepUp.put (by omega))).trans ((hk3.mono (by omega)).trans (KeepUp.put (by omega)))⟩⟩
        | exit id =>
          obtain ⟨hk3, hi3⟩ := hq
          obtain ⟨hr, hl4, hd4⟩ := hend (some (.exit id)) W3 hk3
          exact ⟨_, _, hr, .inr ⟨rfl, ⟨.exit id, hputx _ hi3, hl4, hd4⟩, ((hka.mono (by omega)).trans (KeepUp.put (by omega))).trans ((hk3.mono (by omega)).trans (KeepUp.put (by omega)))⟩⟩
        | goto t =>
          obtain ⟨hk3, hi3⟩ := hq
          obtain ⟨hr, hl4, hd4⟩ := hend (some (.goto t)) W3 hk3
          exact ⟨_, _, hr, .inr ⟨rfl, ⟨.goto t, hputx _ hi3, hl4, hd4⟩, ((hka.mono (by omega)).trans (KeepUp.put (by omega))).trans ((hk3.mono (by omega)).trans (KeepUp.put (by omega)))⟩⟩
        | panic ch => exact hq.elim
        | outgrown => exact hq.elim
      | ret => exact hp.elim
      | exit id => exact hp.elim
      | goto t => exact hp.elim
      | panic ch => exact hp.elim
      | outgrown => exact hp.elim
    · rintro e W2 ⟨⟨v, rfl⟩, (⟨hi, hl, hd⟩ | ⟨pre, hpre, c, hi, hl, hd⟩)⟩
      · have he := run_endLoop (P := P) hl (by rw [hrec]; simp)
        rw [hrec] at he
        exact ⟨none, _, he, hdone _ _ (Nat.le_refl _) (hput _ hi) ((World.putObj_heap_other (by omega)).trans hd)⟩
      · have he := run_endLoop (P := P) hl (by rw [hrec]; simp)
        rw [hrec] at he
        exact ⟨some c, _, he, hstop _ c pre _ (Nat.le_refl _) hpre (hputx _ hi) ((World.putObj_heap_other (by omega)).trans hd)⟩
end Go.Proofs.YtodnlcbnbkkanaaGreatDoor
end
section
namespace Go.Proofs.YtodnlcbnbkkanaaGreatDoor
open Go Go.RowKit Go.Shelf Go.Maps

attribute [local go_sem] Oper.semAt_some

def bk (l : List ByteArray) (m : Nat) : List (Nat × ByteArray) := ((l.take m).zipIdx.map fun p => (p.2, p.1)).reverse
theorem bk_succ (l : List ByteArray) (m : Nat) (x : ByteArray) (h : l[m]? = some x) : bk l (m + 1) = (m, x) :: bk l m := by
  have hm : m < l.length := (List.getElem?_eq_some_iff.1 h).1
  unfold bk
  rw [List.take_add_one, h]
  simp only [Option.toList_some, List.zipIdx_append, List.map_append, List.reverse_append, List.length_take, Nat.min_eq_left (Nat.le_of_lt hm)]
  simp
def encB (x : Nat × ByteArray) : Array Value := #[.int .i64 x.1, .string x.2]

set_option maxRecDepth 100000 in
set_option maxHeartbeats 1000000 in
theorem back_low (n : Nat) (hn : 1 ≤ n) (Bn : Nat) (a : Option Addr) (c : Nat) (l : List ByteArray) (hl : l.length ≤ 1048576) (w : World) :
    LowSeq n Tryz.prog 164 #[.pointer (some ⟨Bn, 0, none⟩)] encB (bk l l.length) (fun A => A.cell? ⟨Bn, 0, none⟩ = some (.slice a l.length c) ∧ RowStr A a l) w := by
  intro L J Jx W hW hR hJ hJx hY h0
  have HR := Lib.hid hR
  have HY := Lib.hid hY
  obtain ⟨hBn, _⟩ := hR _ _ h0
  clear hR hY hJ hJx
  refine callsIn_of_wp Tryz.func164 rfl trivial ?_ rfl
  simp only [Tryz.ntmps164, List.size_toArray, List.length_cons, List.length_nil, Nat.reduceAdd, Nat.reduceSub, Array.replicate_succ, Array.replicate_zero, List.push_toArray, List.append_toArray, List.nil_append, List.cons_append]
  gi_wp2
  gi_loopw [3] (fun p wr => ∃ (pre : List (Nat × ByteArray)) (m : Nat) (z : Int), p = .int .i64 z ∧ z + 1 = m ∧ m ≤ l.length ∧ Hid (bk l l.length = pre ++ bk l m) ∧ J pre wr)
    (fun p _ => (intOf p + 1).toNat)
  case atStart => exact ⟨[], l.length, _, rfl, by omega, Nat.le_refl _, Lib.hid rfl, h0⟩
  case round =>
    clear h0 hBn
    obtain ⟨pre, m, z, rfl, hz, hm, hx, hJs⟩ := hrel
    obtain ⟨hcell, hrow⟩ := HR.out _ _ hJs
    by_cases hneg : z < 0
    · obtain rfl : m = 0 := by omega
      have hx2 : Hid (bk l l.length = pre) := Lib.hid (by rw [hx.out]; simp [bk])
      clear hz hx hrow
      gi_wp2
      go_end0
      exact ⟨⟨_, rfl⟩, .inl (by rw [hx2.out]; exact hJs)⟩
    · obtain ⟨k, rfl⟩ := Int.eq_ofNat_of_zero_le (a := z) (by omega)
      obtain rfl : m = k + 1 := by omega
      obtain ⟨x, hxk⟩ : ∃ x, l[k]? = some x := ⟨_, List.getElem?_eq_getElem (by omega)⟩
      have hs : Hid (bk l (k + 1) = (k, x) :: bk l k) := Lib.hid (bk_succ l k x hxk)
      obtain ⟨b, off, rfl, hbw, hc, _⟩ := hrow k x hxk
      have c0 := Str_at hc
      rw [Nat.mul_one] at c0
      have hkl : (k : Int) < (l.length : Int) := by omega
      obtain ⟨fn, tmps, assign, body, hy, hRd⟩ := HY.out pre (k, x) wr (by rw [hx.out, hs.out]; exact ⟨bk l k, by simp⟩) hJs
      have HRd := Lib.hid hRd
      have hx3 : Hid (bk l l.length = (pre ++ [(k, x)]) ++ bk l k) := Lib.hid (by rw [hx.out, hs.out]; simp)
      have hk2 : k ≤ l.length := by omega
      dsimp only [encB] at hy
      clear hrow hc hs hx hxk hm hz hneg hRd
      gi_wp2
      refine HRd.out.mono ?_
      rintro e W3 (⟨rfl, hJ3, _⟩ | ⟨rfl, hJx3, _⟩)
      · gi_wp2
        go_roundw
        case rel => exact ⟨pre ++ [(k, x)], k, (k : Int) - 1, by simp, by omega, hk2, hx3, hJ3⟩
        case measure => simp [intOf]
      · gi_wp2
        refine bodyPost_ret (results_none rfl _ _ _) rfl ?_
        exact ⟨⟨_, rfl⟩, .inr ⟨_, by rw [hx3.out]; exact List.prefix_append _ _, hJx3⟩⟩

def nameD (pre : List (Nat × ByteArray)) : DataW Unit := pre.foldl (fun D x => D.put (.string x.2.data.toList) (.lit (.int .i64 x.1))) (.map [])
theorem nameD_snoc (pre : List (Nat × ByteArray)) (x : Nat × ByteArray) : nameD (pre ++ [x]) = (nameD pre).put (.string x.2.data.toList) (.lit (.int .i64 x.1)) := by simp [nameD, List.foldl_append]
noncomputable abbrev el3 := plainElem (H := Unit) Tryz.prog 3

theorem backward_any (a : Option Addr) (n c : Nat) (w : World) : Calls Tryz.prog 147 #[.slice a n c] w fun e w' => e = .returned (.func (.func 164) #[] #[.pointer (some ⟨w.heap.size, 0, none⟩)]) ∧ w' = w.alloc (.cells #[.slice a n c] 22) := by
  go_enter Tryz.func147, Tryz.ntmps147
  go_wp2
  go_ret
  exact ⟨rfl, rfl⟩

structure NB (w : World) (a : Option Addr) (c : Nat) (l : List ByteArray) (pre : List (Nat × ByteArray)) (W : World) : Prop where
  box : Blk W (w.heap.size + 1) 169 #[.map (some w.heap.size)]
  arg : Blk W (w.heap.size + 1 + 1) 22 #[.slice a l.length c]
  own : W.ownsMap Tryz.prog 9 el3 w.heap.size pre.length (nameD pre)
  b : Below w.heap.size w W
theorem own_block {W W' : World} {b n : Nat} {D : DataW Unit} (h : W.ownsMap Tryz.prog 9 el3 b n D) (hb : W'.heap[b]? = W.heap[b]?) : W'.ownsMap Tryz.prog 9 el3 b n D := by
  obtain ⟨es, clock, e1, e2⟩ := h
  exact ⟨es, clock, hb.trans e1, e2⟩
theorem NB.low {w W W' : World} {a : Option Addr} {c : Nat} {l : List ByteArray} {pre : List (Nat × ByteArray)} (h : NB w a c l pre W) (hB : Below (w.heap.size + 3) W W') : NB w a c l pre W' :=
  ⟨h.box.below hB (by omega), h.arg.below hB (by omega), own_block h.own (hB.block _ (by omega)), h.b.trans (hB.mono (by omega))⟩

set_option maxRecDepth 100000 in
set_option maxHeartbeats 2000000 in
theorem byName_in (n : Nat) (hn : 8 ≤ n) (a : Option Addr) (c : Nat) (l : List ByteArray) (hl : l.length ≤ 1048576) (hs : ∀ s, s ∈ l → s.size ≤ 9223372036854775807) (w : World) (hrow : RowStr w a l) :
    CallsIn Fence.wide n Tryz.prog 124 #[.slice a l.length c] w fun e w' => e = .returned (.map (some w.heap.size)) ∧ w'.ownsMap Tryz.prog 9 el3 w.heap.size l.length (nameD (bk l l.length)) ∧ Below w.heap.size w w' := by
  have h1 : 1 ≤ n := by omega
  have hmm := @run_makeMap Tryz.prog
  have HS := Lib.hid hs
  have HRow := Lib.hid hrow
  clear hs hrow
  refine callsIn_of_wp_marks Tryz.func124 rfl trivial ?_ rfl
  simp only [Tryz.ntmps124, List.size_toArray, List.length_cons, List.length_nil, Nat.reduceAdd, Nat.reduceSub, Array.replicate_succ, Array.replicate_zero, List.push_toArray, List.append_toArray, List.nil_append, List.cons_append]
  gi_wp2_with (refine ⟨trivial, ?_⟩; gi_at_call 147; refine (callsIn_wide.2 (backward_any a _ c _)).mono ?_; rintro e w' ⟨rfl, rfl⟩)
  obtain ⟨W0, hW0⟩ : ∃ W0, W0 = ((w.alloc (.map #[] 0)).alloc (.cells #[.map (some w.heap.size)] 169)).alloc (.cells #[.slice a l.length c] 22) := ⟨_, rfl⟩
  have hs0 : W0.heap.size = w.heap.size + 3 := by rw [hW0]; simp
  have hI0 : NB w a c l [] W0 := by
    have k1 := Blk.new (w.alloc (.map #[] 0)) 169 #[.map (some w.heap.size)]
    have k2 := Blk.new ((w.alloc (.map #[] 0)).alloc (.cells #[.map (some w.heap.size)] 169)) 22 #[.slice a l.length c]
    simp only [World.size_alloc] at k1 k2
    rw [hW0]
    exact ⟨k1.alloc _, k2, ((World.ownsMap_made w Tryz.prog 9 el3).alloc _).alloc _, (((Below.refl _ w).alloc (Nat.le_refl _) _).alloc (by simp) _).alloc (by simp; omega) _⟩
  rw [← hW0]
  clear hW0
  have hlen : (bk l l.length).length = l.length := by simp [bk]
  refine rangeFunc_low h1 (gf := 164) (lb := #[.pointer (some ⟨w.heap.size + 1 + 1, 0, none⟩)]) rfl (enters_of Tryz.func164 (by kernel_rfl) rfl)
    (back_low (n - 1) (by omega) (w.heap.size + 1 + 1) a c l hl W0) (fun _ => rfl)
    (fun pre W => NB w a c l pre W) (fun _ _ _ => False)
    (fun t A B h hB => h.low (by rw [← hs0]; exact hB)) (fun c t A B h hB => h)
    (fun t A h => ⟨h.arg.cell 0, HRow.out.belowN h.b⟩) hI0 ?round ?done ?stop
  case round =>
    intro lp pre x W hpre hI hsz
    have hpl := hpre.length_le
    rw [List.length_append, List.length_singleton, hlen] at hpl
    obtain ⟨i, s⟩ := x
    have hmem : s ∈ l := by
      have : (i, s) ∈ bk l l.length := hpre.subset (by simp)
      unfold bk at this
      rw [List.mem_reverse, List.mem_map] at this
      obtain ⟨p, hp, e⟩ := this
      cases e
      have := List.mem_zipIdx hp
      rw [List.take_length] at hp
      obtain ⟨h1, h2⟩ := List.mem_zipIdx' hp
      rw [h2]; exact List.getElem_mem _
    have hi : i < 1048576 := by
      have : (i, s) ∈ bk l l.length := hpre.subset (by simp)
      unfold bk at this
      rw [List.mem_reverse, List.mem_map] at this
      obtain ⟨p, hp, e⟩ := this
      cases e
      rw [List.take_length] at hp
      obtain ⟨h1, h2⟩ := List.mem_zipIdx' hp
      omega
    have HK := Lib.hid (WideMaps.keyOf_string_mk Tryz.underlying9 (s := s) (by have := HS.out s hmem; unfold maxLen; omega))
    have HQ := Lib.hid (nameD_snoc pre (i, s))
    simp only [encB]
    gi_wp2
    refine ⟨KeepUp.refl _ _, ?_⟩
    intro o
    intros
    obtain ⟨W2, hW2⟩ : ∃ W2, W2 = W.putObj (w.heap.size + 3 + 1) o := ⟨_, rfl⟩
    have hI2 : NB w a c l pre W2 := hI.low (by rw [hW2]; exact putB (Below.refl _ W) (by omega))
    rw [← hW2]
    have c0 := hI2.box.cell 0
    simp only [List.getElem?_toArray, List.getElem?_cons_zero] at c0
    have hown := hI2.own
    have l3 := hI2.arg.lt
    have HI2 := Lib.hid hI2
    clear hI2 hI hI0 hW2 hmem
    gi_wp2_with (gi_at_mapUpdate; refine wpListIn_mapUpdate_own _ rfl _ _ _ 169 rfl 9 3 key9 Tryz.underlying169 el3 w.heap.size pre.length _ rfl hown (by unfold maxLen; omega) _ _ _ rfl rfl HK.out _ [] (plainElem_int Tryz.underlying3 (wf_int (n := (i : Int)) ⟨by omega, by omega⟩)) ?_; intro w1 hown1 hgrow1)
    have hb1 : ∀ k, k ≠ w.heap.size → k < W2.heap.size → w1.heap[k]? = W2.heap[k]? := fun k hk hlt => hgrow1.block k hlt (fun e => hk (by cases e; rfl))
    refine ⟨⟨hgrow1.size, fun k o hk ho => ?_⟩, ?_⟩
    · rw [hb1 k (by omega) (Array.getElem?_eq_some_iff.1 ho).1]; exact ho
    · refine ⟨(hb1 _ (by omega) (by omega)).trans HI2.out.box, (hb1 _ (by omega) (by omega)).trans HI2.out.arg, ?_, HI2.out.b.grown hgrow1 HI2.out.b.size (fun j hj => by cases hj; exact Nat.le_refl _)⟩
      rw [HQ.out, List.length_append]
      exact hown1
  case done =>
    intro D W1 hD hI1 hK1
    have c0 := hI1.box.cell 0
    simp only [List.getElem?_toArray, List.getElem?_cons_zero] at c0
    have HI1 := Lib.hid hI1
    clear hI1 hI0
    gi_wp2
    refine ⟨by simp, .inl ⟨_, _, rfl, run_takeDeferred hK1, ?_⟩⟩
    refine ⟨_, results_tmp rfl _ _ _, rfl, ?_, putB HI1.out.b (by omega)⟩
    have h := own_block HI1.out.own (W' := W1.putObj D (.deferred none)) (World.putObj_heap_other (by omega))
    rw [hlen] at h
    exact h
  case stop =>
    rintro _ _ _ _ _ _ h
    exact h.elim
end Go.Proofs.YtodnlcbnbkkanaaGreatDoor
end
section
namespace Go.Proofs.YtodnlcbnbkkanaaGreatDoor
open Go Go.RowKit Go.Maps Go.WideMaps

def nm : Nat → List ByteArray → DataW Unit
  | _, [] => .map []
  | off, x :: r => (nm (off + 1) r).put (.string x.data.toList) (.lit (.int .i64 (off : Nat)))
theorem nm_bk (l : List ByteArray) : nameD (bk l l.length) = nm 0 l := by
  have h : ∀ (l : List ByteArray) (off : Nat), ((l.zipIdx off).map fun p => (p.2, p.1)).foldr (fun x D => D.put (.string x.2.data.toList) (.lit (.int .i64 (x.1 : Nat)))) (.map [] : DataW Unit) = nm off l := by
    intro l
    induction l with
    | nil => intro off; rfl
    | cons x r ih =>
      intro off
      rw [List.zipIdx_cons, List.map_cons, List.foldr_cons, ih]
      rfl
  unfold nameD bk
  rw [List.take_length, List.foldl_reverse, ← h l 0]
def strEq (a b : ByteArray) : Bool := a.data.toList == b.data.toList
theorem strEq_comm (a b : ByteArray) : strEq a b = strEq b a := by
  unfold strEq
  rw [Bool.eq_iff_iff, beq_iff_eq, beq_iff_eq]
  exact eq_comm
theorem nm_tidy (l : List ByteArray) (hs : ∀ s, s ∈ l → s.size ≤ 9223372036854775807) : ∀ off, Tidy (nm off l) := by
  induction l with
  | nil => intro off; exact tidy_empty
  | cons x r ih =>
    intro off
    exact (ih (fun s h => hs s (by simp [h])) (off + 1)).put (key9.key (keyOf_string_mk Tryz.underlying9 (s := x) (by have := hs x (by simp); unfold maxLen; omega))) _
theorem name_key (x : ByteArray) (h : x.size ≤ 9223372036854775807) : WideAt.IsKeyLit (.string x.data.toList) := key9.key (keyOf_string_mk Tryz.underlying9 (s := x) (by unfold maxLen; omega))
theorem nm_has (l : List ByteArray) (hs : ∀ s, s ∈ l → s.size ≤ 9223372036854775807) (k : ByteArray) : ∀ off, has (nm off l) (.string k.data.toList) = l.any (fun s => strEq s k) := by
  induction l with
  | nil => intro off; rfl
  | cons x r ih =>
    intro off
    have ih := ih (fun s h => hs s (by simp [h])) (off + 1)
    rw [List.any_cons]
    by_cases e : x.data.toList = k.data.toList
    · have : strEq x k = true := by unfold strEq; simpa using e
      rw [this, Bool.true_or, nm, e]
      rw [← e]
      exact has_put_same (nm_tidy r (fun s h => hs s (by simp [h])) _).isMap (name_key x (hs x (by simp))) _
    · have : strEq x k = false := by unfold strEq; simpa using e
      rw [this, Bool.false_or, ← ih, nm]
      exact has_put_other (fun h => e (by injection h with h; exact h.symm)) _
theorem nm_size (l : List ByteArray) (hs : ∀ s, s ∈ l → s.size ≤ 9223372036854775807) : ∀ off, size (nm off l) ≤ l.length ∧ decide (size (nm off l) = l.length) = onceA strEq [] l := by
  induction l with
  | nil => intro off; exact ⟨Nat.le_refl _, rfl⟩
  | cons x r ih =>
    intro off
    obtain ⟨i1, i2⟩ := ih (fun s h => hs s (by simp [h])) (off + 1)
    have hh := nm_has r (fun s h => hs s (by simp [h])) x (off + 1)
    have hsz : size (nm off (x :: r)) = if has (nm (off + 1) r) (.string x.data.toList) then size (nm (off + 1) r) else size (nm (off + 1) r) + 1 :=
      size_put (nm_tidy r (fun s h => hs s (by simp [h])) _) _
    rw [hh] at hsz
    rw [hsz]
    have hp : onceA strEq [] (x :: r) = (!(r.any fun s => strEq s x) && onceA strEq [] r) := by
      rw [Bool.eq_iff_iff, onceA_iff, Bool.and_eq_true, onceA_iff, List.pairwise_cons]
      simp only [List.not_mem_nil, false_imp_iff, implies_true, true_and]
      constructor
      · rintro ⟨h1, h2⟩
        refine ⟨?_, h2⟩
        have : (r.any fun s => strEq s x) = false := by
          rw [List.any_eq_false]
          intro s hs'
          rw [strEq_comm, h1 s hs']; simp
        rw [this]; rfl
      · rintro ⟨h1, h2⟩
        refine ⟨fun s hs' => ?_, h2⟩
        rw [strEq_comm]
        cases h : strEq s x
        · rfl
        · have : (r.any fun s => strEq s x) = true := List.any_eq_true.2 ⟨s, hs', h⟩
          rw [this] at h1; cases h1
    rw [hp, ← i2]
    cases hr : (r.any fun s => strEq s x)
    · refine ⟨by simpa using i1, ?_⟩
      rw [Bool.eq_iff_iff]; simp
    · refine ⟨by simpa using (by omega : size (nm (off + 1) r) ≤ r.length + 1), ?_⟩
      simp only [if_true, List.length_cons, Bool.not_true, Bool.false_and, decide_eq_false_iff_not]
      omega
def findN (k : ByteArray) (l : List ByteArray) : Option Nat := l.findIdx? fun s => strEq s k
theorem byName_any (a : Option Addr) (c : Nat) (l : List ByteArray) (hl : l.length ≤ 1048576) (hs : ∀ s, s ∈ l → s.size ≤ 9223372036854775807) (w : World) (hrow : RowStr w a l) :
    Calls Tryz.prog 124 #[.slice a l.length c] w fun e w' => e = .returned (.map (some w.heap.size)) ∧ w'.ownsMap Tryz.prog 9 el3 w.heap.size l.length (nm 0 l) ∧ Below w.heap.size w w' := by
  have := callsIn_wide.1 (byName_in 8 (by omega) a c l hl hs w hrow)
  rw [nm_bk] at this
  exact this
end Go.Proofs.YtodnlcbnbkkanaaGreatDoor
end
section
namespace Go.Proofs.YtodnlcbnbkkanaaGreatDoor
open Go Go.RowKit

def cellsL {α : Type} (cs : α → Array Value) (l : List α) : List Value := l.flatMap fun x => (cs x).toList
theorem cellsL_snoc {α : Type} (cs : α → Array Value) (l : List α) (x : α) : cellsL cs (l ++ [x]) = cellsL cs l ++ (cs x).toList := by simp [cellsL]
theorem cellsL_length {α : Type} {cs : α → Array Value} {k : Nat} (hk : ∀ x, (cs x).size = k) (l : List α) : (cellsL cs l).length = l.length * k := by
  induction l with
  | nil => simp [cellsL]
  | cons x r ih =>
    have e : cellsL cs (x :: r) = (cs x).toList ++ cellsL cs r := by simp [cellsL]
    rw [e, List.length_append, ih, Array.length_toList, hk, List.length_cons, Nat.succ_mul]; omega
theorem cellsL_at {α : Type} {cs : α → Array Value} {k : Nat} (hk : ∀ x, (cs x).size = k) : ∀ (l : List α) (i : Nat) (x : α), l[i]? = some x → ∀ j, j < k → (cellsL cs l)[i * k + j]? = (cs x)[j]? := by
  intro l
  induction l with
  | nil => intro i x hx; simp at hx
  | cons r rs ih =>
    intro i x hx j hj
    have hc : cellsL cs (r :: rs) = (cs r).toList ++ cellsL cs rs := by simp [cellsL]
    have hr : (cs r).toList.length = k := by rw [Array.length_toList, hk]
    rw [hc]
    cases i with
    | zero =>
      simp at hx
      subst hx
      rw [Nat.zero_mul, Nat.zero_add, List.getElem?_append_left (by omega), Array.getElem?_toList]
    | succ i =>
      have h := ih i x (by simpa using hx) j hj
      rw [List.getElem?_append_right (by rw [hr, Nat.succ_mul]; omega), ← h, hr]
      congr 1
      rw [Nat.succ_mul]; omega

theorem own_row {α : Type} {cs : α → Array Value} {k : Nat} {G : World → α → Prop} (hk : ∀ x, (cs x).size = k) {w : World} {n₀ e : Nat} {v : Value} {l : List α} (h : w.ownsRow n₀ e k v l.length (cellsL cs l))
    (hG : ∀ x, x ∈ l → G w x) : ∃ a cap, v = .slice a l.length cap ∧ RowOf k cs G w a l := by
  rcases h.2 with ⟨rfl, h0⟩ | ⟨g, cap, cur, rfl, _, hg, _⟩
  · have : l = [] := List.length_eq_zero_iff.1 h0
    subst this
    exact ⟨none, 0, rfl, RowOf.nil _⟩
  · refine ⟨_, cap, rfl, fun i x hx => ⟨g, 0, rfl, (Array.getElem?_eq_some_iff.1 hg).1, fun j u hj => ?_, hG x (List.mem_of_getElem? hx)⟩⟩
    have hjk : j < k := by
      have := (Array.getElem?_eq_some_iff.1 hj).1
      rw [hk] at this; exact this
    have hil : i < l.length := (List.getElem?_eq_some_iff.1 hx).1
    have hlt : i * k + j < l.length * k := by
      have : (i + 1) * k ≤ l.length * k := Nat.mul_le_mul_right k hil
      rw [Nat.succ_mul] at this; omega
    rw [Nat.zero_add]
    exact (h.cellAt (i * k + j) hlt).trans ((cellsL_at hk l i x hx j hjk).trans hj)

theorem add_off (b off j : Nat) : (⟨b, off, none⟩ : Addr).add j = ⟨b, off + j, none⟩ := by
  unfold Addr.add
  split
  · next h => rw [h]; rfl
  · rfl
theorem cells_new (w : World) (cs : Array Value) (t : TypeId) : ∀ j v, cs.toList[j]? = some v → (w.alloc (.cells cs t)).cell? ((⟨w.heap.size, 0, none⟩ : Addr).add j) = some v := by
  intro j v hj
  rw [add_off, Nat.zero_add, (Blk.new w t cs).cell j]
  simpa using hj

theorem own_below {w w' : World} {base : Nat} {e : TypeId} {size : Nat} {v : Value} {n : Nat} {xs : List Value} {N : Nat} (h : w.ownsRow base e size v n xs) (hB : Below N w w') (hN : w.heap.size ≤ N) : w'.ownsRow base e size v n xs := by
  refine ⟨h.1, ?_⟩
  rcases h.2 with h | ⟨g, cap, cur, h1, h2, h3, h4⟩
  · exact .inl h
  · exact .inr ⟨g, cap, cur, h1, h2, (hB.block g (Nat.lt_of_lt_of_le (Array.getElem?_eq_some_iff.1 h3).1 hN)).trans h3, h4⟩
theorem own_fin {e size : Nat} {w w1 w' : World} {n₀ : Nat} {v : Value} {n : Nat} {xs : List Value} (hown : w1.ownsRow n₀ e size v n xs) (hB : Below n₀ w w1) (hn : n₀ ≤ w.heap.size) (hg : w1.grownBy w' v.ownBlock) : Below n₀ w w' :=
  hB.grown hg (Nat.le_trans hn hB.size) fun j ej => by
    rcases hown.2 with ⟨rfl, _⟩ | ⟨g, cap, cur, rfl, hb, _⟩
    · cases ej
    · cases ej; exact hb
end Go.Proofs.YtodnlcbnbkkanaaGreatDoor
end
section
namespace Go.Proofs.YtodnlcbnbkkanaaGreatDoor
open Go Go.RowKit

section
variable {w : World} {o : Oper} {ρ : Operand → Value}

theorem ld3 {x : Operand} {p : Addr} {v : Value} (ho : o.op = .load 3 x) (hx : ρ x = .pointer (some p)) (hc : w.cell? p = some v) : (execOp ρ o).run Tryz.prog w = .ok (.value v) w := by
  unfold execOp; rw [ho]; simp only [hx]
  go_simp

theorem ld4 {x : Operand} {p : Addr} {v : Value} (ho : o.op = .load 4 x) (hx : ρ x = .pointer (some p)) (hc : w.cell? p = some v) : (execOp ρ o).run Tryz.prog w = .ok (.value v) w := by
  unfold execOp; rw [ho]; simp only [hx]
  go_simp

theorem ld22 {x : Operand} {p : Addr} {v : Value} (ho : o.op = .load 22 x) (hx : ρ x = .pointer (some p)) (hc : w.cell? p = some v) : (execOp ρ o).run Tryz.prog w = .ok (.value v) w := by
  unfold execOp; rw [ho]; simp only [hx]
  go_simp

theorem ld23 {x : Operand} {p : Addr} {v : Value} (ho : o.op = .load 23 x) (hx : ρ x = .pointer (some p)) (hc : w.cell? p = some v) : (execOp ρ o).run Tryz.prog w = .ok (.value v) w := by
  unfold execOp; rw [ho]; simp only [hx]
  go_simp

theorem ld48 {x : Operand} {p : Addr} {v : Value} (ho : o.op = .load 48 x) (hx : ρ x = .pointer (some p)) (hc : w.cell? p = some v) : (execOp ρ o).run Tryz.prog w = .ok (.value v) w := by
  unfold execOp; rw [ho]; simp only [hx]
  go_simp

theorem ld60 {x : Operand} {b q : Nat} {v : SymM} (ho : o.op = .load 60 x) (hx : ρ x = .pointer (some ⟨b, q, none⟩)) (hc : CellsAt w b q (symC v)) : (execOp ρ o).run Tryz.prog w = .ok (.value (.agg (symC v))) w := by
  obtain ⟨c0, c1, c2, c3, c4, c5⟩ := Sym_at hc
  unfold symC
  unfold execOp; rw [ho]; simp only [hx]
  go_simp

theorem ld65 {x : Operand} {b q : Nat} {v : ProdM} (ho : o.op = .load 65 x) (hx : ρ x = .pointer (some ⟨b, q, none⟩)) (hc : CellsAt w b q (prodC v)) : (execOp ρ o).run Tryz.prog w = .ok (.value (.agg (prodC v))) w := by
  obtain ⟨c0, c1, c2, c3, c4, c5, c6⟩ := Prod_at hc
  unfold prodC
  unfold execOp; rw [ho]; simp only [hx]
  go_simp

theorem ld27 {x : Operand} {b q : Nat} {v : GramM} (ho : o.op = .load 27 x) (hx : ρ x = .pointer (some ⟨b, q, none⟩)) (hc : CellsAt w b q (gramC v)) : (execOp ρ o).run Tryz.prog w = .ok (.value (.agg (gramC v))) w := by
  obtain ⟨c0, c1, c2, c3, c4⟩ := Gram_at hc
  unfold gramC
  unfold execOp; rw [ho]; simp only [hx]
  go_simp

theorem len22 {x : Operand} {a : Option Addr} {n c : Nat} (ho : o.op = .call { callee := .builtin .len, args := #[x], argTypes := #[22] }) (hx : ρ x = .slice a n c) : (execOp ρ o).run Tryz.prog w = .ok (.value (.int .i64 n)) w := by
  unfold execOp; rw [ho]; simp only [resolve, invoke, builtin, List.map_toArray, List.map_cons, List.map_nil, hx]; go_simp

theorem ex_leq {x y : Operand} {a b : Int} {r : Bool} (ho : o.op = .binOp .leq 3 x y 3) (hx : ρ x = .int .i64 a) (hy : ρ y = .int .i64 b) (h : decide (a ≤ b) = r) : (execOp ρ o).run Tryz.prog w = .ok (.value (.bool r)) w := by
  unfold execOp; rw [ho]; simp only [hx, hy]
  subst h
  go_simp

theorem ex_lss {x y : Operand} {a b : Int} {r : Bool} (ho : o.op = .binOp .lss 3 x y 3) (hx : ρ x = .int .i64 a) (hy : ρ y = .int .i64 b) (h : decide (a < b) = r) : (execOp ρ o).run Tryz.prog w = .ok (.value (.bool r)) w := by
  unfold execOp; rw [ho]; simp only [hx, hy]
  subst h
  go_simp

theorem ex_eql3 {x y : Operand} {a b : Int} {r : Bool} (ho : o.op = .binOp .eql 3 x y 3) (hx : ρ x = .int .i64 a) (hy : ρ y = .int .i64 b) (h : (a == b) = r) : (execOp ρ o).run Tryz.prog w = .ok (.value (.bool r)) w := by
  unfold execOp; rw [ho]; simp only [hx, hy]
  go_simp
theorem ix22 {x y : Operand} {g f n c k q : Nat} (ho : o.op = .indexAddr 22 x y) (hx : ρ x = .slice (some ⟨g, f, none⟩) n c) (hy : ρ y = .int .i64 (k : Int)) (hk : k < n) (hq : f + k = q) : (execOp ρ o).run Tryz.prog w = .ok (.value (.pointer (some ⟨g, q, none⟩))) w := by
  subst hq
  unfold execOp; rw [ho]; simp only [hx, hy]
  have h0 : (0 : Int) ≤ k := by omega
  have h1 : (k : Int) < n := by omega
  go_simp

theorem ix23 {x y : Operand} {g f n c k q : Nat} (ho : o.op = .indexAddr 23 x y) (hx : ρ x = .slice (some ⟨g, f, none⟩) n c) (hy : ρ y = .int .i64 (k : Int)) (hk : k < n) (hq : f + k * 7 = q) : (execOp ρ o).run Tryz.prog w = .ok (.value (.pointer (some ⟨g, q, none⟩))) w := by
  subst hq
  unfold execOp; rw [ho]; simp only [hx, hy]
  have h0 : (0 : Int) ≤ k := by omega
  have h1 : (k : Int) < n := by omega
  go_simp

theorem ix31 {x y : Operand} {g f n c k q : Nat} (ho : o.op = .indexAddr 31 x y) (hx : ρ x = .slice (some ⟨g, f, none⟩) n c) (hy : ρ y = .int .i64 (k : Int)) (hk : k < n) (hq : f + k = q) : (execOp ρ o).run Tryz.prog w = .ok (.value (.pointer (some ⟨g, q, none⟩))) w := by
  subst hq
  unfold execOp; rw [ho]; simp only [hx, hy]
  have h0 : (0 : Int) ≤ k := by omega
  have h1 : (k : Int) < n := by omega
  go_simp

theorem fa27_0 {x : Operand} {g m : Nat} (ho : o.op = .fieldAddr 27 x 0) (hx : ρ x = .pointer (some ⟨g, m, none⟩)) : (execOp ρ o).run Tryz.prog w = .ok (.value (.pointer (some ⟨g, m, none⟩))) w := by
  unfold execOp; rw [ho]; simp only [hx]
  go_simp

theorem fa27_1 {x : Operand} {g m : Nat} (ho : o.op = .fieldAddr 27 x 1) (hx : ρ x = .pointer (some ⟨g, m, none⟩)) : (execOp ρ o).run Tryz.prog w = .ok (.value (.pointer (some ⟨g, m + 1, none⟩))) w := by
  unfold execOp; rw [ho]; simp only [hx]
  go_simp

theorem fa27_2 {x : Operand} {g m : Nat} (ho : o.op = .fieldAddr 27 x 2) (hx : ρ x = .pointer (some ⟨g, m, none⟩)) : (execOp ρ o).run Tryz.prog w = .ok (.value (.pointer (some ⟨g, m + 2, none⟩))) w := by
  unfold execOp; rw [ho]; simp only [hx]
  go_simp

end
end Go.Proofs.YtodnlcbnbkkanaaGreatDoor
end
section
namespace Go.Proofs.YtodnlcbnbkkanaaGreatDoor
open Go Go.RowKit Go.Maps Go.WideMaps Go.Vals Go.Vals

def nameB (s : ByteArray) : Bool := decide (1 ≤ s.size) && decide (s.size ≤ 1000)

set_option maxHeartbeats 400000 in
theorem f77_any (s : ByteArray) (w : World) : Calls Tryz.prog 123 #[.string s] w fun e w' => e = .returned (.bool (nameB s)) ∧ Below w.heap.size w w' := by
  unfold nameB
  by_cases h : 1 ≤ s.size
  · have h1 : decide (1 ≤ s.size) = true := by simpa using h
    have i1 : (1 : Int) ≤ (s.size : Int) := by omega
    rw [h1, Bool.true_and]
    by_cases h2 : s.size ≤ 1000
    · have h3 : decide (s.size ≤ 1000) = true := by simpa using h2
      have i2 : (s.size : Int) ≤ 1000 := by omega
      rw [h3]
      go_enter Tryz.func123, Tryz.ntmps123
      go_wp2
      go_ret
      exact ⟨rfl, Below.refl _ _⟩
    · have h3 : decide (s.size ≤ 1000) = false := by simpa using h2
      have i2 : ¬ (s.size : Int) ≤ 1000 := by omega
      rw [h3]
      go_enter Tryz.func123, Tryz.ntmps123
      go_wp2
      go_ret
      exact ⟨rfl, Below.refl _ _⟩
  · have h1 : decide (1 ≤ s.size) = false := by simpa using h
    have i1 : ¬ (1 : Int) ≤ (s.size : Int) := by omega
    rw [h1, Bool.false_and]
    go_enter Tryz.func123, Tryz.ntmps123
    go_wp2
    go_ret
    exact ⟨rfl, Below.refl _ _⟩

structure FitG (g : GramM) : Prop where
  fit : Fit g
  forb : ∀ f, f ∈ g.forbid → FitF f
  fol : ∀ f, f ∈ g.follow → I64 f.sort

def forbidsB (g : GramM) : Bool := onceA forEq [] g.forbid && g.forbid.all (forbidB g)

set_option maxRecDepth 100000 in
set_option maxHeartbeats 1000000 in
theorem forbidsMay_any (g : GramM) (w : World) (hg : GIn w g) (hf : FitG g) : Calls Tryz.prog 95 #[gramV g] w fun e w' => e = .returned (.bool (forbidsB g)) ∧ Below w.heap.size w w' := by
  have hB1 : Below w.heap.size w (w.alloc (.cells (gramC g) 27)) := (Below.refl _ _).alloc (Nat.le_refl _) _
  have HO := Lib.hid (onceFor_any g.fa g.fc g.forbid _ (hg.forbid.belowN hB1) hf.fit.forbid hf.forb)
  have HA := Lib.hid (fun W (hW : Below (w.alloc (.cells (gramC g) 27)).heap.size (w.alloc (.cells (gramC g) 27)) W) => allFor_any g.fa g.fc g.forbid (forbidB g) 130 #[.pointer (some ⟨w.heap.size, 0, none⟩)] (fun _ _ => by kernel_rfl) W ((hg.forbid.belowN hB1).belowN hW) hf.fit.forbid (fun f hF V hV =>
    f83_any f g w.heap.size V ((hg.below hB1).below (hW.trans (hV.mono hW.size))) hf.fit (hf.forb f hF) ((Blk.new w 27 (gramC g)).below (hW.trans (hV.mono hW.size)) (by simp))))
  have HB := Lib.hid hB1
  have HR : Hid (forbidsB g = (onceA forEq [] g.forbid && g.forbid.all (forbidB g))) := Lib.hid rfl
  have HK := Lib.hid (fun W (hW : Below (w.alloc (.cells (gramC g) 27)).heap.size (w.alloc (.cells (gramC g) 27)) W) => ((Blk.new w 27 (gramC g)).below hW (by simp)).gram)
  clear hg hf hB1
  generalize g.forbid.all (forbidB g) = r at *
  generalize onceA forEq [] g.forbid = o at *
  generalize forbidsB g = q at *
  unfold gramV gramC at *
  cases o with
  | false =>
    have HR2 : Hid (q = false) := Lib.hid (by rw [HR.out]; rfl)
    clear HR HA HK
    go_enter Tryz.func95, Tryz.ntmps95
    go_wp2_with fail
    refine HO.out.mono ?_
    rintro e w3 ⟨rfl, hB3⟩
    have HB3 := Lib.hid (HB.out.trans (hB3.mono HB.out.size))
    clear hB3
    go_wp2
    go_ret
    exact ⟨by rw [HR2.out]; try rfl, HB3.out⟩
  | true =>
    have HR2 : Hid (q = r) := Lib.hid (by rw [HR.out]; rfl)
    clear HR
    go_enter Tryz.func95, Tryz.ntmps95
    go_wp2_with fail
    refine HO.out.mono ?_
    rintro e w3 ⟨rfl, hB3⟩
    have HA3 := Lib.hid (HA.out _ hB3)
    obtain ⟨_, _, _, c3, _⟩ := HK.out _ hB3
    have HB3 := Lib.hid (HB.out.trans (hB3.mono HB.out.size))
    have hlt : w.heap.size < w3.heap.size := by have := hB3.size; simp at this; omega
    clear hB3 HA HK HO
    go_wp2_with fail
    refine HA3.out.mono ?_
    rintro e w4 ⟨rfl, hB4⟩
    have HB4 := Lib.hid (HB3.out.trans (hB4.mono HB3.out.size))
    clear hB4 c3
    go_wp2
    go_ret
    exact ⟨by rw [HR2.out]; try rfl, HB4.out⟩

def sortsB' (g : GramM) : Bool := decide (1 ≤ g.sorts.length) && (decide (g.sorts.length ≤ 1000) && (g.sorts.all nameB && onceA strEq [] g.sorts))

set_option maxRecDepth 100000 in
set_option maxHeartbeats 2000000 in
theorem sortsMay_any (g : GramM) (w : World) (hg : GIn w g) (hf : Fit g) : Calls Tryz.prog 92 #[gramV g] w fun e w' => e = .returned (.bool (sortsB' g)) ∧ Below w.heap.size w w' := by
  have hB1 : Below w.heap.size w (w.alloc (.cells (gramC g) 27)) := (Below.refl _ _).alloc (Nat.le_refl _) _
  have HA := Lib.hid (fun W (hW : Below w.heap.size w W) => allStr_any g.sa g.sc g.sorts nameB 123 #[] (fun _ _ => by kernel_rfl) W (hg.sorts.belowN hW) hf.sorts (fun s hs V hV => f77_any s V))
  have HN := Lib.hid (fun W (hW : Below w.heap.size w W) => byName_any g.sa g.sc g.sorts hf.sorts hf.names W (hg.sorts.belowN hW))
  have HO : Hid (decide (size (nm 0 g.sorts) = g.sorts.length) = onceA strEq [] g.sorts) := Lib.hid (nm_size g.sorts hf.names 0).2
  have HB := Lib.hid hB1
  have HR : Hid (sortsB' g = (decide (1 ≤ g.sorts.length) && (decide (g.sorts.length ≤ 1000) && (g.sorts.all nameB && onceA strEq [] g.sorts)))) := Lib.hid rfl
  have HK := Lib.hid (fun W (hW : Below (w.alloc (.cells (gramC g) 27)).heap.size (w.alloc (.cells (gramC g) 27)) W) => ((Blk.new w 27 (gramC g)).below hW (by simp)).gram)
  clear hg hf hB1
  generalize g.sorts.all nameB = ra at *
  generalize onceA strEq [] g.sorts = o at *
  generalize sortsB' g = q at *
  unfold gramV gramC at *
  generalize nm 0 g.sorts = D at *
  generalize g.sorts.length = n at *
  obtain ⟨W0, hW0⟩ : ∃ W0, W0 = w.alloc (.cells #[.slice g.sa n g.sc, .slice g.pa g.prods.length g.pc, .int .i64 g.start, .slice g.fa g.forbid.length g.fc, .slice g.wa g.follow.length g.wc] 27) := ⟨_, rfl⟩
  have hN : ∀ W : World, Below W.heap.size W W := fun W => Below.refl _ W
  by_cases h1 : 1 ≤ n
  · have i1 : decide ((1 : Int) ≤ ((n : Nat) : Int)) = true := by simp; omega
    by_cases h2 : n ≤ 1000
    · have i2 : decide (((n : Nat) : Int) ≤ 1000) = true := by simp; omega
      have HR2 : Hid (q = (ra && o)) := Lib.hid (by rw [HR.out]; simp [h1, h2])
      clear HR h1 h2
      cases ra with
      | false =>
        have HR3 : Hid (q = false) := Lib.hid (by rw [HR2.out]; rfl)
        clear HR2 HN HO
        go_enter Tryz.func92, Tryz.ntmps92
        go_wp2_with fail
        rw [← hW0] at HB HK ⊢
        clear hW0
        refine wp_region_vals0 (N := fun W W' => Below W.heap.size W W') (S := fun W => Below W0.heap.size W0 W)
          [.pointer (some ⟨w.heap.size, 0, none⟩), .slice g.sa n g.sc, .int .i64 (n : Nat), .bool true, .bool true, .pointer (some ⟨w.heap.size, 0, none⟩), .slice g.sa n g.sc, .int .i64 (n : Nat), .bool true, .bool true, .bool true, .pointer (some ⟨w.heap.size, 0, none⟩), .slice g.sa n g.sc, .bool false, .bool false, .bool false, undef, undef, undef, undef, undef, undef, undef, undef, .bool false, .bool false]
          #[.agg #[.slice g.sa n g.sc, .slice g.pa g.prods.length g.pc, .int .i64 g.start, .slice g.fa g.forbid.length g.fc, .slice g.wa g.follow.length g.wc], .pointer (some ⟨w.heap.size, 0, none⟩), .bool false, .pointer (some ⟨w.heap.size, 0, none⟩), .slice g.sa n g.sc, .int .i64 (n : Nat), .bool true, .bool true, .pointer (some ⟨w.heap.size, 0, none⟩), .slice g.sa n g.sc, .int .i64 (n : Nat), .bool true, .bool true, .bool true, .pointer (some ⟨w.heap.size, 0, none⟩), .slice g.sa n g.sc, .bool false, .bool false, .bool false, undef, undef, undef, undef, undef, undef, undef, undef, .bool false]
          rfl (by kernel_rfl) (by kernel_rfl) (by kernel_rfl) hN (Below.refl _ W0).drew (fun W W' h hB => h.trans (hB.mono h.size)) ?_ ?_
        · refine Each.val 3 (.pointer (some ⟨w.heap.size, 0, none⟩)) (by kernel_rfl) (by kernel_rfl) (by kernel_rfl) hN (fun W hS _ => fa27_0 rfl (by kernel_rfl)) ?_
          refine Each.val 4 (.slice g.sa n g.sc) (by kernel_rfl) (by kernel_rfl) (by kernel_rfl) hN (fun W hS _ => ld22 rfl (by kernel_rfl) ((HK.out W hS).1)) ?_
          refine Each.val 5 (.int .i64 (n : Nat)) (by kernel_rfl) (by kernel_rfl) (by kernel_rfl) hN (fun W hS _ => len22 (a := g.sa) (c := g.sc) rfl (by kernel_rfl)) ?_
          refine Each.val 6 (.bool true) (by kernel_rfl) (by kernel_rfl) (by kernel_rfl) hN (fun W hS _ => ex_leq rfl (by kernel_rfl) (by kernel_rfl) (i1)) ?_
          refine Each.val 7 (.bool true) (by kernel_rfl) (by kernel_rfl) (by kernel_rfl) hN (fun _ _ _ => by kernel_rfl) ?_
          refine Each.val 8 (.pointer (some ⟨w.heap.size, 0, none⟩)) (by kernel_rfl) (by kernel_rfl) (by kernel_rfl) hN (fun W hS _ => fa27_0 rfl (by kernel_rfl)) ?_
          refine Each.val 9 (.slice g.sa n g.sc) (by kernel_rfl) (by kernel_rfl) (by kernel_rfl) hN (fun W hS _ => ld22 rfl (by kernel_rfl) ((HK.out W hS).1)) ?_
          refine Each.val 10 (.int .i64 (n : Nat)) (by kernel_rfl) (by kernel_rfl) (by kernel_rfl) hN (fun W hS _ => len22 (a := g.sa) (c := g.sc) rfl (by kernel_rfl)) ?_
          refine Each.val 11 (.bool true) (by kernel_rfl) (by kernel_rfl) (by kernel_rfl) hN (fun W hS _ => ex_leq rfl (by kernel_rfl) (by kernel_rfl) (i2)) ?_
          refine Each.val 12 (.bool true) (by kernel_rfl) (by kernel_rfl) (by kernel_rfl) hN (fun _ _ _ => by kernel_rfl) ?_
          refine Each.val 13 (.bool true) (by kernel_rfl) (by kernel_rfl) (by kernel_rfl) hN (fun _ _ _ => by kernel_rfl) ?_
          refine Each.val 14 (.pointer (some ⟨w.heap.size, 0, none⟩)) (by kernel_rfl) (by kernel_rfl) (by kernel_rfl) hN (fun W hS _ => fa27_0 rfl (by kernel_rfl)) ?_
          refine Each.val 15 (.slice g.sa n g.sc) (by kernel_rfl) (by kernel_rfl) (by kernel_rfl) hN (fun W hS _ => ld22 rfl (by kernel_rfl) ((HK.out W hS).1)) ?_
          refine Each.call 16 (.bool false) 122 #[.slice g.sa n g.sc, .func (.func 123) #[] #[]] (by kernel_rfl) (by kernel_rfl) (by kernel_rfl) (fun _ _ => by kernel_rfl) (fun W hS => HA.out W (HB.out.trans (hS.mono HB.out.size))) ?_
          refine Each.val 17 (.bool false) (by kernel_rfl) (by kernel_rfl) (by kernel_rfl) hN (fun _ _ _ => by kernel_rfl) ?_
          refine Each.val 18 (.bool false) (by kernel_rfl) (by kernel_rfl) (by kernel_rfl) hN (fun _ _ _ => by kernel_rfl) ?_
          refine Each.off 19 (by kernel_rfl) (by kernel_rfl) (by kernel_rfl) ?_
          refine Each.off 20 (by kernel_rfl) (by kernel_rfl) (by kernel_rfl) ?_
          refine Each.off 21 (by kernel_rfl) (by kernel_rfl) (by kernel_rfl) ?_
          refine Each.off 22 (by kernel_rfl) (by kernel_rfl) (by kernel_rfl) ?_
          refine Each.off 23 (by kernel_rfl) (by kernel_rfl) (by kernel_rfl) ?_
          refine Each.off 24 (by kernel_rfl) (by kernel_rfl) (by kernel_rfl) ?_
          refine Each.off 25 (by kernel_rfl) (by kernel_rfl) (by kernel_rfl) ?_
          refine Each.off 26 (by kernel_rfl) (by kernel_rfl) (by kernel_rfl) ?_
          refine Each.val 27 (.bool false) (by kernel_rfl) (by kernel_rfl) (by kernel_rfl) hN (fun _ _ _ => by kernel_rfl) ?_
          refine Each.val 2 (.bool false) (by kernel_rfl) (by kernel_rfl) (by kernel_rfl) hN (fun _ _ _ => by kernel_rfl) ?_
          exact trivial
        · intro w' hS
          have HB3 := Lib.hid (HB.out.trans (hS.mono HB.out.size))
          clear hS hN
          go_wp2
          go_ret
          exact ⟨by rw [HR3.out]; try rfl, HB3.out⟩
      | true =>
        have HR3 : Hid (q = o) := Lib.hid (by rw [HR2.out]; rfl)
        clear HR2 hN
        go_enter Tryz.func92, Tryz.ntmps92
        go_wp2_with fail
        rw [← hW0] at HB HK ⊢
        have c0 := (HK.out W0 (Below.refl _ _)).1
        have hl0 : w.heap.size < W0.heap.size := by rw [hW0]; simp
        clear hW0
        go_region_held (fun W => W.cell? ⟨w.heap.size, 0, none⟩ = some (.slice g.sa n g.sc)) (go_keep)
          (first
            | (go_at_call 122; (with_reducible refine (HA.out _ HB.out.drew).mono ?_); rintro e w3 ⟨rfl, hB3⟩; have hB3' : Below W0.heap.size W0 w3 := ⟨hB3.os, hB3.tape, hB3.output, hB3.size, hB3.block⟩; have e0 := (HK.out w3 hB3').1; have HB3 := Lib.hid hB3'; clear hB3 hB3')
            | (go_at_call 124; (with_reducible refine (HN.out _ (HB.out.trans (HB3.out.mono HB.out.size))).mono ?_); rintro e w4 ⟨rfl, hown, hB4⟩; have hB4' := HB3.out.trans (hB4.mono HB3.out.size); have e1 := (HK.out w4 hB4').1; have hlen := fun ty => hown.len Tryz.underlying169 ty; have HB4 := Lib.hid (HB.out.trans (hB4'.mono HB.out.size)); clear hB4 hB4' hown))
        go_wp2
        go_ret
        exact ⟨by
          rw [HR3.out, ← HO.out]
          show Ending.returned (.bool _) = Ending.returned (.bool _)
          rw [Ending.returned.injEq, Value.bool.injEq, Bool.eq_iff_iff]
          simp
          exact Int.ofNat_inj, HB4.out⟩
    · have i2 : decide (((n : Nat) : Int) ≤ 1000) = false := by simp; omega
      have HR3 : Hid (q = false) := Lib.hid (by rw [HR.out]; simp [h1, h2])
      clear HR h1 h2 HN HO HA
      go_enter Tryz.func92, Tryz.ntmps92
      go_wp2_with fail
      rw [← hW0] at HB HK ⊢
      clear hW0
      refine wp_region_vals0 (N := fun W W' => Below W.heap.size W W') (S := fun W => Below W0.heap.size W0 W)
        [.pointer (some ⟨w.heap.size, 0, none⟩), .slice g.sa n g.sc, .int .i64 (n : Nat), .bool true, .bool true, .pointer (some ⟨w.heap.size, 0, none⟩), .slice g.sa n g.sc, .int .i64 (n : Nat), .bool false, .bool false, .bool false, undef, undef, undef, .bool false, .bool false, undef, undef, undef, undef, undef, undef, undef, undef, .bool false, .bool false]
        #[.agg #[.slice g.sa n g.sc, .slice g.pa g.prods.length g.pc, .int .i64 g.start, .slice g.fa g.forbid.length g.fc, .slice g.wa g.follow.length g.wc], .pointer (some ⟨w.heap.size, 0, none⟩), .bool false, .pointer (some ⟨w.heap.size, 0, none⟩), .slice g.sa n g.sc, .int .i64 (n : Nat), .bool true, .bool true, .pointer (some ⟨w.heap.size, 0, none⟩), .slice g.sa n g.sc, .int .i64 (n : Nat), .bool false, .bool false, .bool false, undef, undef, undef, .bool false, .bool false, undef, undef, undef, undef, undef, undef, undef, undef, .bool false]
        rfl (by kernel_rfl) (by kernel_rfl) (by kernel_rfl) hN (Below.refl _ W0).drew (fun W W' h hB => h.trans (hB.mono h.size)) ?_ ?_
      · refine Each.val 3 (.pointer (some ⟨w.heap.size, 0, none⟩)) (by kernel_rfl) (by kernel_rfl) (by kernel_rfl) hN (fun W hS _ => fa27_0 rfl (by kernel_rfl)) ?_
        refine Each.val 4 (.slice g.sa n g.sc) (by kernel_rfl) (by kernel_rfl) (by kernel_rfl) hN (fun W hS _ => ld22 rfl (by kernel_rfl) ((HK.out W hS).1)) ?_
        refine Each.val 5 (.int .i64 (n : Nat)) (by kernel_rfl) (by kernel_rfl) (by kernel_rfl) hN (fun W hS _ => len22 (a := g.sa) (c := g.sc) rfl (by kernel_rfl)) ?_
        refine Each.val 6 (.bool true) (by kernel_rfl) (by kernel_rfl) (by kernel_rfl) hN (fun W hS _ => ex_leq rfl (by kernel_rfl) (by kernel_rfl) (i1)) ?_
        refine Each.val 7 (.bool true) (by kernel_rfl) (by kernel_rfl) (by kernel_rfl) hN (fun _ _ _ => by kernel_rfl) ?_
        refine Each.val 8 (.pointer (some ⟨w.heap.size, 0, none⟩)) (by kernel_rfl) (by kernel_rfl) (by kernel_rfl) hN (fun W hS _ => fa27_0 rfl (by kernel_rfl)) ?_
        refine Each.val 9 (.slice g.sa n g.sc) (by kernel_rfl) (by kernel_rfl) (by kernel_rfl) hN (fun W hS _ => ld22 rfl (by kernel_rfl) ((HK.out W hS).1)) ?_
        refine Each.val 10 (.int .i64 (n : Nat)) (by kernel_rfl) (by kernel_rfl) (by kernel_rfl) hN (fun W hS _ => len22 (a := g.sa) (c := g.sc) rfl (by kernel_rfl)) ?_
        refine Each.val 11 (.bool false) (by kernel_rfl) (by kernel_rfl) (by kernel_rfl) hN (fun W hS _ => ex_leq rfl (by kernel_rfl) (by kernel_rfl) (i2)) ?_
        refine Each.val 12 (.bool false) (by kernel_rfl) (by kernel_rfl) (by kernel_rfl) hN (fun _ _ _ => by kernel_rfl) ?_
        refine Each.val 13 (.bool false) (by kernel_rfl) (by kernel_rfl) (by kernel_rfl) hN (fun _ _ _ => by kernel_rfl) ?_
        refine Each.off 14 (by kernel_rfl) (by kernel_rfl) (by kernel_rfl) ?_
        refine Each.off 15 (by kernel_rfl) (by kernel_rfl) (by kernel_rfl) ?_
        refine Each.off 16 (by kernel_rfl) (by kernel_rfl) (by kernel_rfl) ?_
        refine Each.val 17 (.bool false) (by kernel_rfl) (by kernel_rfl) (by kernel_rfl) hN (fun _ _ _ => by kernel_rfl) ?_
        refine Each.val 18 (.bool false) (by kernel_rfl) (by kernel_rfl) (by kernel_rfl) hN (fun _ _ _ => by kernel_rfl) ?_
        refine Each.off 19 (by kernel_rfl) (by kernel_rfl) (by kernel_rfl) ?_
        refine Each.off 20 (by kernel_rfl) (by kernel_rfl) (by kernel_rfl) ?_
        refine Each.off 21 (by kernel_rfl) (by kernel_rfl) (by kernel_rfl) ?_
        refine Each.off 22 (by kernel_rfl) (by kernel_rfl) (by kernel_rfl) ?_
        refine Each.off 23 (by kernel_rfl) (by kernel_rfl) (by kernel_rfl) ?_
        refine Each.off 24 (by kernel_rfl) (by kernel_rfl) (by kernel_rfl) ?_
        refine Each.off 25 (by kernel_rfl) (by kernel_rfl) (by kernel_rfl) ?_
        refine Each.off 26 (by kernel_rfl) (by kernel_rfl) (by kernel_rfl) ?_
        refine Each.val 27 (.bool false) (by kernel_rfl) (by kernel_rfl) (by kernel_rfl) hN (fun _ _ _ => by kernel_rfl) ?_
        refine Each.val 2 (.bool false) (by kernel_rfl) (by kernel_rfl) (by kernel_rfl) hN (fun _ _ _ => by kernel_rfl) ?_
        exact trivial
      · intro w' hS
        have HB3 := Lib.hid (HB.out.trans (hS.mono HB.out.size))
        clear hS hN
        go_wp2
        go_ret
        exact ⟨by rw [HR3.out]; try rfl, HB3.out⟩
  · have i1 : decide ((1 : Int) ≤ ((n : Nat) : Int)) = false := by simp; omega
    have HR3 : Hid (q = false) := Lib.hid (by rw [HR.out]; simp [h1])
    clear HR h1 HN HO HA
    go_enter Tryz.func92, Tryz.ntmps92
    go_wp2_with fail
    rw [← hW0] at HB HK ⊢
    clear hW0
    refine wp_region_vals0 (N := fun W W' => Below W.heap.size W W') (S := fun W => Below W0.heap.size W0 W)
      [.pointer (some ⟨w.heap.size, 0, none⟩), .slice g.sa n g.sc, .int .i64 (n : Nat), .bool false, .bool false, undef, undef, undef, undef, .bool false, .bool false, undef, undef, undef, .bool false, .bool false, undef, undef, undef, undef, undef, undef, undef, undef, .bool false, .bool false]
      #[.agg #[.slice g.sa n g.sc, .slice g.pa g.prods.length g.pc, .int .i64 g.start, .slice g.fa g.forbid.length g.fc, .slice g.wa g.follow.length g.wc], .pointer (some ⟨w.heap.size, 0, none⟩), .bool false, .pointer (some ⟨w.heap.size, 0, none⟩), .slice g.sa n g.sc, .int .i64 (n : Nat), .bool false, .bool false, undef, undef, undef, undef, .bool false, .bool false, undef, undef, undef, .bool false, .bool false, undef, undef, undef, undef, undef, undef, undef, undef, .bool false]
      rfl (by kernel_rfl) (by kernel_rfl) (by kernel_rfl) hN (Below.refl _ W0).drew (fun W W' h hB => h.trans (hB.mono h.size)) ?_ ?_
    · refine Each.val 3 (.pointer (some ⟨w.heap.size, 0, none⟩)) (by kernel_rfl) (by kernel_rfl) (by kernel_rfl) hN (fun W hS _ => fa27_0 rfl (by kernel_rfl)) ?_
      refine Each.val 4 (.slice g.sa n g.sc) (by kernel_rfl) (by kernel_rfl) (by kernel_rfl) hN (fun W hS _ => ld22 rfl (by kernel_rfl) ((HK.out W hS).1)) ?_
      refine Each.val 5 (.int .i64 (n : Nat)) (by kernel_rfl) (by kernel_rfl) (by kernel_rfl) hN (fun W hS _ => len22 (a := g.sa) (c := g.sc) rfl (by kernel_rfl)) ?_
      refine Each.val 6 (.bool false) (by kernel_rfl) (by kernel_rfl) (by kernel_rfl) hN (fun W hS _ => ex_leq rfl (by kernel_rfl) (by kernel_rfl) (i1)) ?_
      refine Each.val 7 (.bool false) (by kernel_rfl) (by kernel_rfl) (by kernel_rfl) hN (fun _ _ _ => by kernel_rfl) ?_
      refine Each.off 8 (by kernel_rfl) (by kernel_rfl) (by kernel_rfl) ?_
      refine Each.off 9 (by kernel_rfl) (by kernel_rfl) (by kernel_rfl) ?_
      refine Each.off 10 (by kernel_rfl) (by kernel_rfl) (by kernel_rfl) ?_
      refine Each.off 11 (by kernel_rfl) (by kernel_rfl) (by kernel_rfl) ?_
      refine Each.val 12 (.bool false) (by kernel_rfl) (by kernel_rfl) (by kernel_rfl) hN (fun _ _ _ => by kernel_rfl) ?_
      refine Each.val 13 (.bool false) (by kernel_rfl) (by kernel_rfl) (by kernel_rfl) hN (fun _ _ _ => by kernel_rfl) ?_
      refine Each.off 14 (by kernel_rfl) (by kernel_rfl) (by kernel_rfl) ?_
      refine Each.off 15 (by kernel_rfl) (by kernel_rfl) (by kernel_rfl) ?_
      refine Each.off 16 (by kernel_rfl) (by kernel_rfl) (by kernel_rfl) ?_
      refine Each.val 17 (.bool false) (by kernel_rfl) (by kernel_rfl) (by kernel_rfl) hN (fun _ _ _ => by kernel_rfl) ?_
      refine Each.val 18 (.bool false) (by kernel_rfl) (by kernel_rfl) (by kernel_rfl) hN (fun _ _ _ => by kernel_rfl) ?_
      refine Each.off 19 (by kernel_rfl) (by kernel_rfl) (by kernel_rfl) ?_
      refine Each.off 20 (by kernel_rfl) (by kernel_rfl) (by kernel_rfl) ?_
      refine Each.off 21 (by kernel_rfl) (by kernel_rfl) (by kernel_rfl) ?_
      refine Each.off 22 (by kernel_rfl) (by kernel_rfl) (by kernel_rfl) ?_
      refine Each.off 23 (by kernel_rfl) (by kernel_rfl) (by kernel_rfl) ?_
      refine Each.off 24 (by kernel_rfl) (by kernel_rfl) (by kernel_rfl) ?_
      refine Each.off 25 (by kernel_rfl) (by kernel_rfl) (by kernel_rfl) ?_
      refine Each.off 26 (by kernel_rfl) (by kernel_rfl) (by kernel_rfl) ?_
      refine Each.val 27 (.bool false) (by kernel_rfl) (by kernel_rfl) (by kernel_rfl) hN (fun _ _ _ => by kernel_rfl) ?_
      refine Each.val 2 (.bool false) (by kernel_rfl) (by kernel_rfl) (by kernel_rfl) hN (fun _ _ _ => by kernel_rfl) ?_
      exact trivial
    · intro w' hS
      have HB3 := Lib.hid (HB.out.trans (hS.mono HB.out.size))
      clear hS hN
      go_wp2
      go_ret
      exact ⟨by rw [HR3.out]; try rfl, HB3.out⟩
end Go.Proofs.YtodnlcbnbkkanaaGreatDoor
end
