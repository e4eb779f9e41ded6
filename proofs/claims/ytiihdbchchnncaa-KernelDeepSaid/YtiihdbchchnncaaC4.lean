import Derived.StillTailTactics
import Derived.Test.YtiihdbchchnncaaC3
import Derived.Test.YtiihdbchchnncaaAFor
namespace Go.Proofs.Ytiihdbchchnncaa
open Go Go.RowKit

theorem Blk.gram {w : World} {B : Nat} {g : GramM} (h : Blk w B 27 (gramC g)) : w.cell? ⟨B, 0, none⟩ = some (.slice g.sa g.sorts.length g.sc) ∧ w.cell? ⟨B, 1, none⟩ = some (.slice g.pa g.prods.length g.pc) ∧ w.cell? ⟨B, 2, none⟩ = some (.int .i64 g.start) ∧
    w.cell? ⟨B, 3, none⟩ = some (.slice g.fa g.forbid.length g.fc) ∧ w.cell? ⟨B, 4, none⟩ = some (.slice g.wa g.follow.length g.wc) := ⟨h.cell 0, h.cell 1, h.cell 2, h.cell 3, h.cell 4⟩
theorem Blk.prod {w : World} {B : Nat} {x : ProdM} (h : Blk w B 46 (prodC x)) : w.cell? ⟨B, 0, none⟩ = some (.int .i64 x.left) ∧ w.cell? ⟨B, 1, none⟩ = some (.slice x.ra x.right.length x.rc) ∧ w.cell? ⟨B, 2, none⟩ = some (.string x.cons) ∧
    w.cell? ⟨B, 3, none⟩ = some (.int .i64 x.role) ∧ w.cell? ⟨B, 4, none⟩ = some (.bool x.prefer) ∧ w.cell? ⟨B, 5, none⟩ = some (.bool x.avoid) ∧ w.cell? ⟨B, 6, none⟩ = some (.int .i64 x.frm) := ⟨h.cell 0, h.cell 1, h.cell 2, h.cell 3, h.cell 4, h.cell 5, h.cell 6⟩

set_option maxRecDepth 100000 in
set_option maxHeartbeats 1000000 in
/-- prodsMayBe's closure. -/
theorem f79_any (x : ProdM) (g : GramM) (B : Nat) (w : World) (hx : ProdIn w x) (hn : x.right.length ≤ 1048576) (hb : Blk w B 27 (gramC g)) :
    Calls Try.prog 79 #[prodV x, .pointer (some ⟨B, 0, none⟩)] w fun e w' => e = .returned (.bool (prodB g.sorts.length x)) ∧ Below w.heap.size w w' := by
  have hB1 : Below w.heap.size w (w.alloc (.cells (prodC x) 46)) := (Below.refl _ _).alloc (Nat.le_refl _) _
  have HC := Lib.hid (prodMay_any x g.sorts.length _ (hx.below hB1) hn)
  have hlt := hb.lt
  have HB := Lib.hid hB1
  obtain ⟨c0, _, _, _, _⟩ := hb.gram
  clear hb hx hB1
  generalize prodB g.sorts.length x = r at *
  unfold prodV prodC at *
  go_enter Try.func79, Try.ntmps79
  go_wp2_with (go_at_call 80; refine HC.out.mono ?_; rintro e w3 ⟨rfl, hB3⟩)
  go_ret
  exact ⟨rfl, HB.out.trans (hB3.mono HB.out.size)⟩

/-- A grammar's bounds. -/
structure Fit (g : GramM) : Prop where
  sorts : g.sorts.length ≤ 1048576
  prods : g.prods.length ≤ 1048576
  right : ∀ x, x ∈ g.prods → x.right.length ≤ 1048576
  forbid : g.forbid.length ≤ 1048576
  follow : g.follow.length ≤ 1048576
  at_ : ∀ f, f ∈ g.forbid → -9223372036854775808 ≤ f.at_ ∧ f.at_ ≤ 9223372036854775807
  names : ∀ s, s ∈ g.sorts → s.size ≤ 1048576

theorem RowOf.mem {α : Type} {k : Nat} {cs : α → Array Value} {G : World → α → Prop} {w : World} {a : Option Addr} {l : List α} (h : RowOf k cs G w a l) {x : α} (hx : x ∈ l) : G w x := by
  obtain ⟨i, hi⟩ := List.mem_iff_getElem?.1 hx
  obtain ⟨_, _, _, _, _, k⟩ := h i x hi
  exact k

/-- May the productions be? -/
def prodsB (g : GramM) : Bool := decide (g.prods.length ≤ 1000) && g.prods.all (prodB g.sorts.length)

set_option maxRecDepth 100000 in
set_option maxHeartbeats 1000000 in
theorem prodsMay_any (g : GramM) (w : World) (hg : GIn w g) (hf : Fit g) : Calls Try.prog 61 #[gramV g] w fun e w' => e = .returned (.bool (prodsB g)) ∧ Below w.heap.size w w' := by
  have hB1 : Below w.heap.size w (w.alloc (.cells (gramC g) 27)) := (Below.refl _ _).alloc (Nat.le_refl _) _
  have HA := Lib.hid (allProd_any g.pa g.pc g.prods (prodB g.sorts.length) 79 #[.pointer (some ⟨w.heap.size, 0, none⟩)] (fun _ _ => by kernel_rfl) _ (hg.prods.below hB1) hf.prods (fun x hx W hW =>
    f79_any x g w.heap.size W ((RowOf.mem hg.prods hx).below (hB1.trans (hW.mono (by simp)))) (hf.right x hx) ((Blk.new w 27 (gramC g)).below hW (by simp))))
  have HB := Lib.hid hB1
  have HR : Hid (prodsB g = (decide (g.prods.length ≤ 1000) && g.prods.all (prodB g.sorts.length))) := Lib.hid rfl
  clear hg hf hB1
  generalize g.prods.all (prodB g.sorts.length) = r at *
  generalize prodsB g = q at *
  unfold gramV gramC at *
  generalize g.prods.length = n at *
  by_cases h : n ≤ 1000
  · have HR2 : Hid (q = r) := Lib.hid (by rw [HR.out]; simp [h])
    have hi : (n : Int) ≤ 1000 := by omega
    clear HR h
    go_enter Try.func61, Try.ntmps61
    go_wp2_with fail
    refine HA.out.mono ?_
    rintro e w3 ⟨rfl, hB3⟩
    have HB3 := Lib.hid (HB.out.trans (hB3.mono HB.out.size))
    clear hB3
    go_wp2
    go_ret
    exact ⟨by rw [HR2.out]; try rfl, HB3.out⟩
  · have HR2 : Hid (q = false) := Lib.hid (by rw [HR.out]; simp [h])
    have hi : ¬ (n : Int) ≤ 1000 := by omega
    clear HR h HA
    go_enter Try.func61, Try.ntmps61
    go_wp2
    go_ret
    exact ⟨by rw [HR2.out]; try rfl, HB.out⟩

/-- Is the start a sort? -/
def startB (g : GramM) : Bool := numB g.start g.sorts.length

set_option maxRecDepth 100000 in
theorem startMay_any (g : GramM) (w : World) : Calls Try.prog 60 #[gramV g] w fun e w' => e = .returned (.bool (startB g)) ∧ Below w.heap.size w w' := by
  have HB : Hid (Below w.heap.size w (w.alloc (.cells (gramC g) 27))) := (Below.refl _ _).alloc (Nat.le_refl _) _
  have HN := fun w' => Lib.hid (num_any g.start g.sorts.length w')
  unfold startB gramV gramC at *
  generalize numB g.start g.sorts.length = r at *
  go_enter Try.func60, Try.ntmps60
  go_wp2_with (go_at_call 42; refine (HN _).out.mono ?_; rintro e w3 ⟨rfl, rfl⟩)
  go_ret
  exact ⟨rfl, HB.out⟩

/-- May a production stand as the at-th symbol of another one? -/
def standB (p : ProdM) (k : Int) (c : ProdM) : Bool := !(p.role == 11) && (!(c.role == 11) && (numB (k - 1) p.right.length && (match p.right[(k - 1).toNat]? with | some s => s.kind == 1 && s.sort == c.left | none => false)))

set_option maxRecDepth 100000 in
set_option maxHeartbeats 4000000 in
theorem standMay_any (p c : ProdM) (k : Int) (w : World) (hp : ProdIn w p) (hn : p.right.length ≤ 1048576) (hk0 : -9223372036854775808 ≤ k) (hk1 : k ≤ 9223372036854775807) :
    Calls Try.prog 84 #[prodV p, .int .i64 k, prodV c] w fun e w' => e = .returned (.bool (standB p k c)) ∧ Below w.heap.size w w' := by
  have HB : Hid (Below w.heap.size w ((w.alloc (.cells (prodC p) 46)).alloc (.cells (prodC c) 46))) := Lib.hid (((Below.refl _ _).alloc (Nat.le_refl _) _).alloc (by simp) _)
  have HP := Lib.hid hp
  have HR : Hid (standB p k c = (!(p.role == 11) && (!(c.role == 11) && (numB (k - 1) p.right.length && (match p.right[(k - 1).toNat]? with | some s => s.kind == 1 && s.sort == c.left | none => false))))) := Lib.hid rfl
  clear hp
  generalize standB p k c = q at *
  obtain ⟨pl, pra, prc, pr, pc, pro, pp, pav, pf⟩ := p
  obtain ⟨cl, cra, crc, cr, cc, cro, cp, cav, cf⟩ := c
  unfold ProdIn at HP
  unfold prodV prodC at *
  dsimp only at *
  by_cases h1 : pro = 11
  · have HR2 : Hid (q = false) := Lib.hid (by rw [HR.out]; simp [h1])
    subst h1
    clear HR HP
    go_enter Try.func84, Try.ntmps84
    go_wp2
    go_ret
    exact ⟨by rw [HR2.out]; try rfl, HB.out⟩
  · have e1 : (pro == 11) = false := by simpa using h1
    by_cases h2 : cro = 11
    · have HR2 : Hid (q = false) := Lib.hid (by rw [HR.out]; simp [h2])
      subst h2
      clear HR h1 HP
      go_enter Try.func84, Try.ntmps84
      go_wp2
      go_ret
      exact ⟨by rw [HR2.out]; try rfl, HB.out⟩
    · have e2 : (cro == 11) = false := by simpa using h2
      by_cases h3 : 1 ≤ k ∧ k ≤ pr.length
      · obtain ⟨m, hm⟩ : ∃ m : Nat, k = m + 1 := ⟨(k - 1).toNat, by omega⟩
        subst hm
        have hm : m < pr.length := by omega
        obtain ⟨s, hs⟩ : ∃ s, pr[m]? = some s := ⟨_, List.getElem?_eq_getElem hm⟩
        have hnum : numB ((m : Int) + 1 - 1) pr.length = true := by unfold numB; simp; omega
        have HR2 : Hid (q = (s.kind == 1 && s.sort == cl)) := Lib.hid (by
          rw [HR.out, e1, e2, hnum, show ((m : Int) + 1 - 1).toNat = m by omega, hs]; rfl)
        have HN := fun w' => Lib.hid (num_any m pr.length w')
        have hnum2 : numB m pr.length = true := by unfold numB; simp; omega
        rw [hnum2] at HN
        obtain ⟨b, off, rfl, hbw, hc, _⟩ := HP.out m s hs
        have hc := hc.below HB.out hbw
        have hcw : b < ((w.alloc (.cells #[.int .i64 pl, .slice (some ⟨b, off, none⟩) pr.length prc, .string pc, .int .i64 pro, .bool pp, .bool pav, .int .i64 pf] 46)).alloc (.cells #[.int .i64 cl, .slice cra cr.length crc, .string cc, .int .i64 cro, .bool cp, .bool cav, .int .i64 cf] 46)).heap.size := by simp; omega
        obtain ⟨c0, c1, c2, c3, c4, c5⟩ := Sym_at hc
        obtain ⟨sk, ss, so⟩ := s
        dsimp only at *
        clear HR hc h1 h2 hnum hnum2 hs hn
        generalize pr.length = n at *
        have hmi : (m : Int) < n := by omega
        by_cases h4 : sk = 1
        · subst h4
          have HR3 : Hid (q = (so == cl)) := Lib.hid (by rw [HR2.out]; rfl)
          clear HR2
          go_enter Try.func84, Try.ntmps84
          go_wp2_with (go_at_call 42; (with_reducible refine (HN _).out.mono ?_); rintro e w3 ⟨rfl, rfl⟩)
          go_ret
          exact ⟨by rw [HR3.out]; try rfl, HB.out.alloc (by simp; omega) _⟩
        · have e4 : (sk == 1) = false := by simpa using h4
          have HR3 : Hid (q = false) := Lib.hid (by rw [HR2.out, e4]; rfl)
          clear HR2 h4
          go_enter Try.func84, Try.ntmps84
          go_wp2_with (go_at_call 42; (with_reducible refine (HN _).out.mono ?_); rintro e w3 ⟨rfl, rfl⟩)
          go_ret
          exact ⟨by rw [HR3.out]; try rfl, HB.out.alloc (by simp; omega) _⟩
      · have hnum : numB (k - 1) pr.length = false := by unfold numB; simp; omega
        have HR2 : Hid (q = false) := Lib.hid (by rw [HR.out, hnum]; simp)
        by_cases h4 : k = -9223372036854775808
        · subst h4
          have hnum2 : numB (wrap64 (-9223372036854775809)) pr.length = false := by
            rw [show wrap64 (-9223372036854775809) = 9223372036854775807 by kernel_rfl]
            unfold numB; simp; omega
          have HN := fun w' => Lib.hid (num_any (wrap64 (-9223372036854775809)) pr.length w')
          rw [hnum2] at HN
          clear HR h1 h2 h3 HP hnum2 hnum hk0 hk1
          go_enter Try.func84, Try.ntmps84
          go_wp2_with fail
          with_reducible refine (HN _).out.mono ?_
          rintro e w3 ⟨rfl, rfl⟩
          go_wp2
          go_ret
          exact ⟨by rw [HR2.out]; try rfl, HB.out⟩
        · have hk2 : -9223372036854775807 ≤ k := by omega
          have hk3 : k - 1 ≤ 9223372036854775807 := by omega
          have HN := fun w' => Lib.hid (num_any (k - 1) pr.length w')
          rw [hnum] at HN
          clear HR h1 h2 h3 h4 HP hnum
          go_enter Try.func84, Try.ntmps84
          go_wp2_with fail
          refine (HN _).out.mono ?_
          rintro e w3 ⟨rfl, rfl⟩
          go_wp2
          go_ret
          exact ⟨by rw [HR2.out]; try rfl, HB.out⟩
end Go.Proofs.Ytiihdbchchnncaa
