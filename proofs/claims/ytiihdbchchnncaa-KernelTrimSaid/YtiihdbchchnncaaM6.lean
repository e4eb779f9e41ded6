import Derived.Laws.IdiomArrays
import Derived.OpenShut
import Derived.Deep.Slices
import Derived.ProofKit
import Derived.ChangeSame
import Derived.Laws.EntriesVeiled
import Derived.Laws.BytesArg
import Derived.Test.YtiihdbchchnncaaM1
import Derived.Test.YtiihdbchchnncaaM2
import Derived.Test.YtiihdbchchnncaaM3
import Derived.Test.YtiihdbchchnncaaM5
section
namespace Go.Proofs.Ytiihdbchchnncaa
open Go Go.RowKit

set_option maxRecDepth 100000 in
set_option maxHeartbeats 1000000 in
theorem notTree_any (x : TreeM) (p : Bool) (K : Nat) (lb : Array Value) (eg : ∀ args w, (callFunc K args).run Try.prog w = .ok (.enter K args) w) (B : Nat) (w : World) (hb : w.cell? ⟨B, 0, none⟩ = some (.func (.func K) #[] lb))
    (H : ∀ W, Below w.heap.size w W → Calls Try.prog K (#[treeV x] ++ lb) W fun e w' => e = .returned (.bool p) ∧ Below W.heap.size W w') :
    Calls Try.prog 88 #[treeV x, .pointer (some ⟨B, 0, none⟩)] w fun e w' => e = .returned (.bool (!p)) ∧ Below w.heap.size w w' := by
  have hB := lt_of_cell hb
  have HH := Lib.hid H
  clear H
  obtain ⟨xp, xb, xa, xc, xk⟩ := x
  simp only [treeV, treeC] at *
  go_enter Try.func88, Try.ntmps88
  go_wp2_with (refine (HH.out _ ?_).mono ?_)
  · exact ((Below.refl _ _).alloc (Nat.le_refl _) _)
  rintro e w' ⟨rfl, hB2⟩
  go_wp2
  go_ret
  exact ⟨rfl, ((Below.refl _ _).alloc (Nat.le_refl _) _).trans (hB2.mono (by simp))⟩

set_option maxRecDepth 100000 in
set_option maxHeartbeats 4000000 in
theorem indexTree_any (a : Option Addr) (c : Nat) (l : List TreeM) (q : TreeM → Bool) (K : Nat) (lb : Array Value) (eg : ∀ args w, (callFunc K args).run Try.prog w = .ok (.enter K args) w) (w : World)
    (hl : RowTree w a l) (hn : l.length ≤ 1048576) (H : Says treeV q l K lb w) :
    Calls Try.prog 101 #[.slice a l.length c, .func (.func K) #[] lb] w fun e w' => e = .returned (.int .i64 (firstI q l)) ∧ Below w.heap.size w w' := by
  have HL := Lib.hid hl
  have HH := Lib.hid H
  clear hl H
  obtain ⟨n, hln⟩ : ∃ n, n = l.length := ⟨_, rfl⟩
  rw [← hln] at hn ⊢
  have HN := Lib.hid hln
  clear hln
  go_enter Try.func101, Try.ntmps101
  go_wp2
  go_loopw [8] (fun i wr => ∃ (m : Nat), i = .int .i64 m ∧ m ≤ n ∧ Hid (∀ (j : Nat) y, j < m → l[j]? = some y → q y = false) ∧ Hid (Below w.heap.size w wr))
    (fun i _ => n - (intOf i).toNat)
  case atStart => exact ⟨0, rfl, Nat.zero_le _, Lib.hid (fun j y hj => by omega), Below.refl _ _⟩
  case round =>
    obtain ⟨m, rfl, hm, hS, hB⟩ := hrel
    by_cases hlt : m < n
    · have HX : Hid (∃ x, l[m]? = some x) := Lib.hid ⟨_, List.getElem?_eq_getElem (by rw [← HN.out]; exact hlt)⟩
      obtain ⟨⟨xp, xb, xa, xc, xk⟩, hx⟩ := HX.out
      have HX := Lib.hid hx
      clear hx
      obtain ⟨b, off, rfl, hbw, hc, _⟩ := HL.out m (TreeM.node xp xb xa xc xk) HX.out
      have hc := hc.below hB.out hbw
      have hbr := Nat.lt_of_lt_of_le hbw hB.out.size
      obtain ⟨c0, c1, c2⟩ := Tree_at hc
      clear hc
      have HC := Lib.hid (HH.out (TreeM.node xp xb xa xc xk) (List.mem_of_getElem? HX.out) wr hB.out)
      have HQ : Hid (∀ r, q (TreeM.node xp xb xa xc xk) = r → r = false → ∀ (j : Nat) y, j < m + 1 → l[j]? = some y → q y = false) := Lib.hid (fun r hr hf j y hj hy => by
        by_cases e : j = m
        · subst e
          rw [HX.out] at hy
          cases hy
          rw [hr, hf]
        · exact hS.out j y (by omega) hy)
      have HT : Hid (q (TreeM.node xp xb xa xc xk) = true → firstI q l = m) := Lib.hid (fun h => firstI_hit q l m (TreeM.node xp xb xa xc xk) HX.out h hS.out)
      generalize q (TreeM.node xp xb xa xc xk) = r at HC HQ HT
      clear HX hS HH HL
      simp only [treeV, treeC] at *
      have n1 : (m : Int) < (n : Int) := by omega
      cases r with
      | true =>
        have HT2 := Lib.hid (HT.out rfl)
        clear HQ HT
        go_wp2_with fail
        refine HC.out.mono ?_
        rintro e w3 ⟨rfl, hB3⟩
        have HB3 := Lib.hid (hB.out.trans (hB3.mono hB.out.size))
        clear hB3
        go_wp2
        go_ret
        exact ⟨by rw [HT2.out]; rfl, HB3.out⟩
      | false =>
        have HQ2 := Lib.hid (HQ.out false rfl rfl)
        clear HT HQ
        go_wp2_with fail
        refine HC.out.mono ?_
        rintro e w3 ⟨rfl, hB3⟩
        have HB3 := Lib.hid (hB.out.trans (hB3.mono hB.out.size))
        clear hB3
        go_wp2
        go_roundw
        case rel => exact ⟨m + 1, by go_num, by omega, HQ2, HB3⟩
        case measure => simp [intOf]; omega
    · obtain rfl : m = n := by omega
      have HT := Lib.hid (firstI_none q l (fun j y hy => hS.out j y (by have := (List.getElem?_eq_some_iff.1 hy).1; have := HN.out; omega) hy))
      clear hS
      go_wp2
      go_ret
      exact ⟨by rw [HT.out]; rfl, hB.out⟩

set_option maxRecDepth 100000 in
set_option maxHeartbeats 1000000 in
theorem containsTree_any (a : Option Addr) (c : Nat) (l : List TreeM) (q : TreeM → Bool) (K : Nat) (lb : Array Value) (eg : ∀ args w, (callFunc K args).run Try.prog w = .ok (.enter K args) w) (w : World)
    (hl : RowTree w a l) (hn : l.length ≤ 1048576) (H : Says treeV q l K lb w) :
    Calls Try.prog 87 #[.slice a l.length c, .func (.func K) #[] lb] w fun e w' => e = .returned (.bool (l.any q)) ∧ Below w.heap.size w w' := by
  have HC := Lib.hid (indexTree_any a c l q K lb eg w hl hn H)
  have HI := firstI_any q l
  obtain ⟨i, hi⟩ : ∃ i, i = firstI q l := ⟨_, rfl⟩
  rw [← hi] at HC HI
  clear hi hl H
  generalize l.any q = r at HI ⊢
  generalize l.length = n at *
  go_enter Try.func87, Try.ntmps87
  go_wp2_with fail
  refine HC.out.mono ?_
  rintro e w3 ⟨rfl, hB3⟩
  go_wp2
  go_ret
  exact ⟨rfl, hB3⟩

set_option maxRecDepth 100000 in
set_option maxHeartbeats 1000000 in
theorem allTree_any (a : Option Addr) (c : Nat) (l : List TreeM) (p : TreeM → Bool) (K : Nat) (lb : Array Value) (eg : ∀ args w, (callFunc K args).run Try.prog w = .ok (.enter K args) w) (w : World)
    (hl : RowTree w a l) (hn : l.length ≤ 1048576) (H : Says treeV p l K lb w) :
    Calls Try.prog 66 #[.slice a l.length c, .func (.func K) #[] lb] w fun e w' => e = .returned (.bool (l.all p)) ∧ Below w.heap.size w w' := by
  have hB1 : Below w.heap.size w (w.alloc (.cells #[.func (.func K) #[] lb] 112)) := (Below.refl _ _).alloc (Nat.le_refl _) _
  have HC := Lib.hid (containsTree_any a c l (fun x => !p x) 88 #[.pointer (some ⟨w.heap.size, 0, none⟩)] (fun _ _ => by kernel_rfl) (w.alloc (.cells #[.func (.func K) #[] lb] 112)) (RowTree.below hl hB1) hn (fun x hx W hW =>
    notTree_any x (p x) K lb eg _ W (by have hb := Blk.new w 112 #[.func (.func K) #[] lb]; exact (hb.below hW hb.lt).cell 0) (fun V hV => H x hx V (hB1.trans ((hW.trans (hV.mono hW.size)).mono (by simp))))))
  have HA := any_not p l
  have HB := Lib.hid hB1
  clear hl H hB1
  generalize l.any (fun x => !p x) = r at HC HA
  rw [← HA]
  clear HA
  generalize l.length = n at *
  go_enter Try.func66, Try.ntmps66
  go_wp2_with fail
  refine HC.out.mono ?_
  rintro e w3 ⟨rfl, hB3⟩
  go_wp2
  go_ret
  exact ⟨rfl, HB.out.trans (hB3.mono HB.out.size)⟩
end Go.Proofs.Ytiihdbchchnncaa
end
section
namespace Go.Proofs.Ytiihdbchchnncaa
open Go Go.RowKit

/-- Is a tree no deeper than that? -/
def nestB : Nat → TreeM → Bool
  | 0, _ => false
  | d + 1, .node _ _ _ _ kids => kids.all (nestB d)
/-- A tree whose lists are no longer than memory bears, so deep down. -/
def TFit : Nat → TreeM → Prop
  | 0, _ => True
  | d + 1, .node _ b _ _ kids => kids.length ≤ 1048576 ∧ (∃ n : Nat, b = n ∧ n < 256) ∧ ∀ k, k ∈ kids → TFit d k

set_option maxRecDepth 100000 in
set_option maxHeartbeats 2000000 in
theorem nested_any (d : Nat) (hd : d ≤ 1048576) : ∀ (t : TreeM) (w : World), TreeIn w t → TFit d t → Calls Try.prog 48 #[treeV t, .int .i64 d] w fun e w' => e = .returned (.bool (nestB d t)) ∧ Below w.heap.size w w' := by
  induction d with
  | zero =>
    intro t w _ _
    obtain ⟨p, b, ka, kc, kids⟩ := t
    have HB : Hid (Below w.heap.size w ((w.alloc (.cells #[.int .i64 p, .int .u8 b, .slice ka kids.length kc] 51)).alloc (.cells #[.int .i64 0] 3))) := Lib.hid (((Below.refl _ _).alloc (Nat.le_refl _) _).alloc (by simp) _)
    have HR : Hid (nestB 0 (.node p b ka kc kids) = false) := Lib.hid rfl
    unfold treeV treeC
    go_enter Try.func48, Try.ntmps48
    go_wp2
    go_ret
    exact ⟨by rw [HR.out]; try rfl, HB.out⟩
  | succ d ih =>
    intro t w ht hfit
    have HI := Lib.hid (ih (by omega))
    obtain ⟨p, b, ka, kc, kids⟩ := t
    rw [tree_in] at ht
    obtain ⟨hlen, _, hk⟩ := hfit
    have hB1 : Below w.heap.size w ((w.alloc (.cells #[.int .i64 p, .int .u8 b, .slice ka kids.length kc] 51)).alloc (.cells #[.int .i64 ((d + 1 : Nat) : Int)] 3)) := ((Below.refl _ _).alloc (Nat.le_refl _) _).alloc (by simp) _
    have hb := Blk.new (w.alloc (.cells #[.int .i64 p, .int .u8 b, .slice ka kids.length kc] 51)) 3 #[.int .i64 ((d + 1 : Nat) : Int)]
    rw [World.size_alloc] at hb
    have hd2 : ((d + 1 : Nat) : Int) - 1 = (d : Int) := by omega
    have Hd2 := Lib.hid hd2
    have hdr : (d : Int) ≤ 1048576 := by omega
    have hd0 : (0 : Int) < ((d + 1 : Nat) : Int) := by omega
    obtain ⟨n, hn⟩ : ∃ n : Int, n = ((d + 1 : Nat) : Int) := ⟨_, rfl⟩
    rw [← hn] at hB1 hb hd2 hd0 ⊢
    have hn2 : n ≤ 1048577 := by omega
    obtain ⟨W1, hW1⟩ : ∃ W1, W1 = (w.alloc (.cells #[.int .i64 p, .int .u8 b, .slice ka kids.length kc] 51)).alloc (.cells #[.int .i64 n] 3) := ⟨_, rfl⟩
    rw [← hW1] at hb hB1
    have HS : Hid (Says treeV (nestB d) kids 67 #[.pointer (some ⟨w.heap.size + 1, 0, none⟩)] W1) := Lib.hid (by
      intro x hx W hW
      have hxi : TreeIn W x := by
        obtain ⟨i, hi⟩ := List.mem_iff_getElem?.1 hx
        obtain ⟨_, _, _, _, _, h⟩ := ht i x hi
        exact TreeIn.below (hB1.trans (hW.mono hB1.size)) x h
      have hbW := hb.below hW hb.lt
      have HIx := Lib.hid (HI.out x _ (TreeIn.below ((Below.refl _ W).alloc (Nat.le_refl _) (.cells (treeC x) 51)) x hxi) (hk x hx))
      have HBx : Hid (Below W.heap.size W (W.alloc (.cells (treeC x) 51))) := Lib.hid ((Below.refl _ W).alloc (Nat.le_refl _) _)
      have c0 := hbW.cell 0
      simp only [List.getElem?_toArray, List.getElem?_cons_zero] at c0
      have lW := hbW.lt
      generalize nestB d x = r at *
      clear hxi hbW hx ht hk hlen HI hW hb hB1 hW1 Hd2
      obtain ⟨xp, xb, xa, xc, xk⟩ := x
      unfold treeV treeC at *
      go_enter Try.func67, Try.ntmps67
      go_wp2_with fail
      with_reducible refine HIx.out.mono ?_
      rintro e w3 ⟨rfl, hB3⟩
      have HF := Lib.hid (HBx.out.trans (hB3.mono HBx.out.size))
      clear hB3
      go_wp2
      go_ret
      exact ⟨by try rfl, HF.out⟩)
    have HA := Lib.hid (allTree_any ka kc kids (nestB d) 67 #[.pointer (some ⟨w.heap.size + 1, 0, none⟩)] (fun _ _ => by kernel_rfl) W1 (RowTree.below ht hB1) hlen HS.out)
    have HR : Hid (nestB (d + 1) (.node p b ka kc kids) = kids.all (nestB d)) := Lib.hid (by rw [nestB])
    have HB := Lib.hid hB1
    have HW := Lib.hid hW1
    have hmf : ∀ (fn : Fn) (first cap : Array Value) (w : World), (Instr.makeFunc fn first cap).run Try.prog w = .ok (.func fn first cap) w := fun _ _ _ _ => rfl
    clear hn ht hk hb hB1 hW1 hd2 HS HI Hd2
    generalize kids.all (nestB d) = r at *
    unfold treeV treeC
    go_enter Try.func48, Try.ntmps48
    go_wp2_with fail
    rw [← HW.out]
    with_reducible refine HA.out.mono ?_
    rintro e w3 ⟨rfl, hB3⟩
    have HF := Lib.hid (HB.out.trans (hB3.mono HB.out.size))
    clear hB3
    go_wp2
    go_ret
    exact ⟨by rw [HR.out]; try rfl, HF.out⟩
end Go.Proofs.Ytiihdbchchnncaa
end
section
namespace Go.Proofs.Ytiihdbchchnncaa
open Go Go.RowKit Go.Deep Go.ChangeShapes Go.WideShapes

theorem cellsOf4 : Try.prog.cellsOf 4 = 1 := by kernel_rfl
theorem cellsOf5 : Try.prog.cellsOf 5 = 1 := by kernel_rfl
theorem cellsOf9 : Try.prog.cellsOf 9 = 1 := by kernel_rfl
theorem cellsOf44 : Try.prog.cellsOf 44 = 1 := by kernel_rfl
theorem cellsOf63 : Try.prog.cellsOf 63 = 1 := by kernel_rfl
theorem cellsOf64 : Try.prog.cellsOf 64 = 1 := by kernel_rfl
theorem cellsOf66 : Try.prog.cellsOf 66 = 4 := by kernel_rfl
theorem cellsOf22 : Try.prog.cellsOf 22 = 1 := by kernel_rfl
theorem cellsOf23 : Try.prog.cellsOf 23 = 1 := by kernel_rfl
theorem cellsOf24 : Try.prog.cellsOf 24 = 1 := by kernel_rfl
theorem cellsOf25 : Try.prog.cellsOf 25 = 1 := by kernel_rfl
theorem cellsOf43 : Try.prog.cellsOf 43 = 1 := by kernel_rfl
theorem cellsOf49 : Try.prog.cellsOf 49 = 1 := by kernel_rfl
theorem cellsOf27 : Try.prog.cellsOf 27 = 5 := by kernel_rfl
theorem cellsOf46 : Try.prog.cellsOf 46 = 7 := by kernel_rfl
theorem cellsOf51 : Try.prog.cellsOf 51 = 3 := by kernel_rfl
theorem cellsOf68 : Try.prog.cellsOf 68 = 6 := by kernel_rfl
theorem cellsOf80 : Try.prog.cellsOf 80 = 5 := by kernel_rfl

theorem u64_rng {n : Int} (h : (Lit.int .u64 n).wf = true) : 0 ≤ n ∧ n < 18446744073709551616 := by
  have h0 : IntKind.u64.min = 0 := by decide
  have h1 : IntKind.u64.max = 18446744073709551615 := by decide
  simp [Lit.wf] at h
  omega
theorem u8_rng {n : Int} (h : (Lit.int .u8 n).wf = true) : 0 ≤ n ∧ n < 256 := by
  have h0 : IntKind.u8.min = 0 := by decide
  have h1 : IntKind.u8.max = 255 := by decide
  simp [Lit.wf] at h
  omega
theorem i64_rng {n : Int} (h : (Lit.int .i64 n).wf = true) : I64 n := by
  have h0 : IntKind.i64.min = -9223372036854775808 := by decide
  have h1 : IntKind.i64.max = 9223372036854775807 := by decide
  simp [Lit.wf] at h
  unfold I64
  omega
theorem mapM_at {α β : Type} (f : α → Option β) : ∀ (l : List α) (ys : List β), l.mapM f = some ys → ∀ (j : Nat) (x : α) (y : β), l[j]? = some x → ys[j]? = some y → f x = some y := by
  intro l
  induction l with
  | nil => intro ys h j x y hx; simp at hx
  | cons a l ih =>
    intro ys h j x y hx hy
    rw [List.mapM_cons] at h
    cases ha : f a with
    | none => rw [ha] at h; cases h
    | some b =>
      rw [ha] at h
      cases hl : l.mapM f with
      | none => rw [hl] at h; cases h
      | some bs =>
        rw [hl] at h
        cases h
        cases j with
        | zero => simp at hx hy; rw [← hx, ← hy]; exact ha
        | succ j => exact ih bs hl j x y (by simpa using hx) (by simpa using hy)

variable {H : Type} {enc : TypeId × Value → H} {w : World} {base : Nat} {spare : Nat → Bool} {held : Bool}

theorem cells_ix {a : Addr} {n : Nat} {cs : List Value} (h : w.cells? base a n = some cs) (j : Nat) (v : Value) (hj : j < n) (hv : cs[j]? = some v) : w.cell? (a.add j) = some v := by
  unfold World.cells? at h
  split at h
  · exact mapM_at _ _ _ h j j v (by simp [hj]) hv
  · cases h
theorem trod_fields {P : Program} {t : TypeId} {fs : Array Field} {fuel : Nat} {cs : List Value} {x : DataW H × List MemPlace} (ht : P.underlying t = some (.struct fs)) (h : DataW.trod enc P w base spare held fuel t cs = some x) :
    ∃ n, fuel = n + 1 ∧ cs.length = P.cellsOf t ∧ ∀ (i : Nat) (f : Field), fs.toList[i]? = some f → ∃ y, DataW.trod enc P w base spare held n f.type ((cs.drop f.offset).take (P.cellsOf f.type)) = some y := by
  obtain ⟨xs, n, hn, rfl, hl, hlen, hf⟩ := DataW.trod_struct ht h
  refine ⟨n, hn, hl, fun i f hi' => ?_⟩
  have hi : fs[i]? = some f := by rw [← Array.getElem?_toList]; exact hi'
  have hlt : i < xs.length := by rw [hlen]; exact (Array.getElem?_eq_some_iff.1 hi).1
  exact ⟨xs[i], (hf i f hi).trans (List.getElem?_eq_getElem hlt)⟩
theorem open_u64 {fuel : Nat} {v : Value} {x : DataW H × List MemPlace} (h : DataW.trod enc Try.prog w base spare held fuel 64 [v] = some x) : ∃ n : Int, v = .int .u64 n ∧ 0 ≤ n ∧ n < 18446744073709551616 := by
  obtain ⟨n, e, _, hw⟩ := DataW.trod_int Try.underlying64 h
  simp at e
  exact ⟨n, e, u64_rng hw⟩
theorem open_u8 {fuel : Nat} {v : Value} {x : DataW H × List MemPlace} (h : DataW.trod enc Try.prog w base spare held fuel 5 [v] = some x) : ∃ n : Int, v = .int .u8 n ∧ 0 ≤ n ∧ n < 256 := by
  obtain ⟨n, e, _, hw⟩ := DataW.trod_int Try.underlying5 h
  simp at e
  exact ⟨n, e, u8_rng hw⟩
theorem open_i64 {fuel t : Nat} (ht : Try.prog.underlying t = some (.int .i64)) {v : Value} {x : DataW H × List MemPlace} (h : DataW.trod enc Try.prog w base spare held fuel t [v] = some x) : ∃ n : Int, v = .int .i64 n ∧ I64 n := by
  obtain ⟨n, e, _, hw⟩ := DataW.trod_int ht h
  simp at e
  exact ⟨n, e, i64_rng hw⟩
theorem open_str {fuel : Nat} {v : Value} {x : DataW H × List MemPlace} (h : DataW.trod enc Try.prog w base spare held fuel 9 [v] = some x) : ∃ s : ByteArray, v = .string s ∧ s.size ≤ maxLen := by
  obtain ⟨s, e, _, hs⟩ := DataW.trod_string Try.underlying9 h
  simp at e
  exact ⟨s, e, hs⟩
theorem open_bl {fuel : Nat} {v : Value} {x : DataW H × List MemPlace} (h : DataW.trod enc Try.prog w base spare held fuel 4 [v] = some x) : ∃ s : Bool, v = .bool s := by
  obtain ⟨s, e, _⟩ := DataW.trod_bool Try.underlying4 h
  simp at e
  exact ⟨s, e⟩

set_option maxRecDepth 100000 in
/-- A set that reads as data. -/
theorem st_open {fuel : Nat} {cs : List Value} {x : DataW H × List MemPlace} (h : DataW.trod enc Try.prog w base spare held fuel 66 cs = some x) :
    ∃ s : BS, cs = [.int .u64 (wdI s 0), .int .u64 (wdI s 1), .int .u64 (wdI s 2), .int .u64 (wdI s 3)] := by
  obtain ⟨_, _, _, _, hl, _⟩ := DataW.trod_array Try.underlying66 h
  rw [cellsOf66] at hl
  match cs, hl with
  | [a, b, c, d], _ =>
    obtain ⟨_, _, _, _, n, _, h0, h1, h2, h3⟩ := trod_array4 Try.underlying66 cellsOf64 h
    obtain ⟨a, rfl, ra⟩ := open_u64 h0
    obtain ⟨b, rfl, rb⟩ := open_u64 h1
    obtain ⟨c, rfl, rc⟩ := open_u64 h2
    obtain ⟨d, rfl, rd⟩ := open_u64 h3
    obtain ⟨s, rfl, rfl, rfl, rfl⟩ := set_of_words a b c d ra rb rc rd
    exact ⟨s, rfl⟩

/-- A slice that reads as data, each of whose elements is a thing. -/
theorem row_open {α : Type} [Inhabited α] {T E k : Nat} {cs : α → Array Value} {G : α → Prop} {GW : World → α → Prop} (hT : Try.prog.underlying T = some (.slice E)) (hk : Try.prog.cellsOf E = k) (hk0 : 0 < k) (hcs : ∀ x, (cs x).size = k) {fuel : Nat} {a : Option Addr} {len cap : Nat} {x : DataW H × List MemPlace}
    (h : DataW.trod enc Try.prog w base spare held fuel T [.slice a len cap] = some x) (hG : ∀ y, G y → GW w y) (ho : ∀ (n : Nat) (c : List Value) (y : DataW H × List MemPlace), n < fuel → DataW.trod enc Try.prog w base spare held n E c = some y → ∃ z : α, c = (cs z).toList ∧ G z) :
    ∃ d : List α, d.length = len ∧ RowOf k cs GW w a d ∧ (∀ y ∈ d, G y) ∧ len ≤ cap ∧ cap ≤ maxLen ∧ (a = none → cap = 0) := by
  rcases DataW.trod_slice hT h with ⟨h0, _⟩ | ⟨a', len', cap', elems, rest, n, hn, hcs', _, hb, hl, hm, hlen, hel, _, _⟩
  · simp at h0
    obtain ⟨rfl, rfl, rfl⟩ := h0
    exact ⟨[], rfl, RowOf.nil _, fun x hx => by simp at hx, Nat.le_refl _, by unfold maxLen; omega, fun _ => rfl⟩
  · simp at hcs'
    obtain ⟨rfl, rfl, rfl⟩ := hcs'
    have hall : ∀ i, i < len → ∃ y : α, (∀ j v, j < k → (cs y).toList[j]? = some v → w.cell? ((a'.add (i * k)).add j) = some v) ∧ G y := by
      intro i hi
      have he := hel i hi
      rw [List.getElem?_eq_getElem (by omega), hk] at he
      cases hc : w.cells? base (a'.add (i * k)) k with
      | none => rw [hc] at he; cases he
      | some c =>
        rw [hc] at he
        obtain ⟨y, rfl, hy⟩ := ho n c _ (by omega) he
        exact ⟨y, fun j v hj hv => cells_ix hc j v hj hv, hy⟩
    obtain ⟨f, hf⟩ := choose_lt hall
    have hget : ∀ i x, ((List.range len).map f)[i]? = some x → i < len ∧ f i = x := by
      intro i x hx
      have hi : i < len := by
        have := (List.getElem?_eq_some_iff.1 hx).1
        simpa using this
      rw [List.getElem?_map, List.getElem?_range hi] at hx
      exact ⟨hi, by simpa using hx⟩
    refine ⟨(List.range len).map f, by simp, ?_, ?_, hl, hm, fun e => by cases e⟩
    · intro i x hx
      obtain ⟨hi, hx'⟩ := hget i x hx
      have q := (hf i hi).1
      rw [hx'] at q
      have hspot : a'.spot = none := by
        have hz : 0 < (cs (f 0)).toList.length := by rw [Array.length_toList, hcs]; exact hk0
        have h0 := (hf 0 (by omega)).1 0 _ hk0 (List.getElem?_eq_getElem hz)
        rw [Nat.zero_mul] at h0
        have e0 : (a'.add 0).add 0 = a' := rfl
        rw [e0] at h0
        exact World.cell?_spot h0
      obtain ⟨b, off, spot⟩ := a'
      simp only at hspot
      subst hspot
      have hc : CellsAt w b (off + i * k) (cs x) := fun j v hv => by
        have hj : j < k := by
          have := (Array.getElem?_eq_some_iff.1 hv).1
          rw [hcs] at this; exact this
        have h := q j v hj (by rw [Array.getElem?_toList]; exact hv)
        rw [add_off, add_off] at h
        exact h
      refine ⟨b, off, rfl, hc.lt (by rw [hcs]; exact hk0), hc, hG x ?_⟩
      rw [← hx']
      exact (hf i hi).2
    · intro x hx
      obtain ⟨i, hi⟩ := List.mem_iff_getElem?.1 hx
      obtain ⟨hi', rfl⟩ := hget i x hi
      exact (hf i hi').2

/-- What a symbol of an argument is bound by. -/
def ASym (s : SymM) : Prop := I64 s.kind ∧ I64 s.sort
structure AProd (w : World) (p : ProdM) : Prop where
  inn : ProdIn w p
  left : I64 p.left
  role : I64 p.role
  frm : I64 p.frm
  cons : p.cons.size ≤ maxLen
  syms : ∀ s, s ∈ p.right → ASym s
  len : p.right.length ≤ p.rc
  cap : p.rc ≤ maxLen
  nil : p.ra = none → p.rc = 0
/-- What a grammar of an argument is bound by. -/
structure AGram (w : World) (g : GramM) : Prop where
  inn : GIn w g
  start : I64 g.start
  names : ∀ s, s ∈ g.sorts → s.size ≤ maxLen
  prods : ∀ p, p ∈ g.prods → AProd w p
  forb : ∀ f, f ∈ g.forbid → FitF f
  fol : ∀ f, f ∈ g.follow → I64 f.sort
  sl : g.sorts.length ≤ g.sc
  sc : g.sc ≤ maxLen
  sn : g.sa = none → g.sc = 0
  pl : g.prods.length ≤ g.pc
  pc : g.pc ≤ maxLen
  pn : g.pa = none → g.pc = 0
  fl : g.forbid.length ≤ g.fc
  fc : g.fc ≤ maxLen
  fn : g.fa = none → g.fc = 0
  wl : g.follow.length ≤ g.wc
  wc : g.wc ≤ maxLen
  wn : g.wa = none → g.wc = 0

instance : Inhabited SymM := ⟨⟨0, 0#256, 0⟩⟩
instance : Inhabited ProdM := ⟨⟨0, none, 0, [], ⟨#[]⟩, 0, false, false, 0⟩⟩
instance : Inhabited ForM := ⟨⟨0, 0, 0⟩⟩
instance : Inhabited FolM := ⟨⟨0, 0#256⟩⟩
instance : Inhabited TreeM := ⟨.node 0 0 none 0 []⟩

set_option maxRecDepth 100000 in
theorem sym_open {fuel : Nat} {cs : List Value} {x : DataW H × List MemPlace} (h : DataW.trod enc Try.prog w base spare held fuel 68 cs = some x) : ∃ y : SymM, cs = (symC y).toList ∧ ASym y := by
  obtain ⟨n, _, hl, hf⟩ := trod_fields Try.underlying68 h
  obtain ⟨_, h0⟩ := hf 0 _ rfl
  obtain ⟨_, h1⟩ := hf 1 _ rfl
  obtain ⟨_, h2⟩ := hf 2 _ rfl
  rw [cellsOf68] at hl
  match cs, hl with
  | [a, b0, b1, b2, b3, c], _ =>
    simp only [cellsOf3, cellsOf63, cellsOf66, List.drop_zero, List.take_succ_cons, List.take_zero, List.drop_succ_cons] at h0 h1 h2
    obtain ⟨kd, rfl, r0⟩ := open_i64 Try.underlying63 h0
    obtain ⟨st, hst⟩ := st_open h1
    simp at hst
    obtain ⟨rfl, rfl, rfl, rfl⟩ := hst
    obtain ⟨so, rfl, r2⟩ := open_i64 Try.underlying3 h2
    exact ⟨⟨kd, st, so⟩, rfl, r0, r2⟩
set_option maxRecDepth 100000 in
theorem for_open {fuel : Nat} {cs : List Value} {x : DataW H × List MemPlace} (h : DataW.trod enc Try.prog w base spare held fuel 78 cs = some x) : ∃ y : ForM, cs = (forC y).toList ∧ FitF y := by
  obtain ⟨n, _, hl, hf⟩ := trod_fields Try.underlying78 h
  obtain ⟨_, h0⟩ := hf 0 _ rfl
  obtain ⟨_, h1⟩ := hf 1 _ rfl
  obtain ⟨_, h2⟩ := hf 2 _ rfl
  rw [cellsOf78] at hl
  match cs, hl with
  | [a, b, c], _ =>
    simp only [cellsOf3, List.drop_zero, List.take_succ_cons, List.take_zero, List.drop_succ_cons] at h0 h1 h2
    obtain ⟨x0, rfl, r0⟩ := open_i64 Try.underlying3 h0
    obtain ⟨x1, rfl, r1⟩ := open_i64 Try.underlying3 h1
    obtain ⟨x2, rfl, r2⟩ := open_i64 Try.underlying3 h2
    exact ⟨⟨x0, x1, x2⟩, rfl, ⟨r0, r1, r2⟩⟩
set_option maxRecDepth 100000 in
theorem fol_open {fuel : Nat} {cs : List Value} {x : DataW H × List MemPlace} (h : DataW.trod enc Try.prog w base spare held fuel 80 cs = some x) : ∃ y : FolM, cs = (folC y).toList ∧ I64 y.sort := by
  obtain ⟨n, _, hl, hf⟩ := trod_fields Try.underlying80 h
  obtain ⟨_, h0⟩ := hf 0 _ rfl
  obtain ⟨_, h1⟩ := hf 1 _ rfl
  rw [cellsOf80] at hl
  match cs, hl with
  | [a, b0, b1, b2, b3], _ =>
    simp only [cellsOf3, cellsOf66, List.drop_zero, List.take_succ_cons, List.take_zero, List.drop_succ_cons] at h0 h1
    obtain ⟨so, rfl, r0⟩ := open_i64 Try.underlying3 h0
    obtain ⟨st, hst⟩ := st_open h1
    simp at hst
    obtain ⟨rfl, rfl, rfl, rfl⟩ := hst
    exact ⟨⟨so, st⟩, rfl, r0⟩
theorem name_open {fuel : Nat} {cs : List Value} {x : DataW H × List MemPlace} (h : DataW.trod enc Try.prog w base spare held fuel 9 cs = some x) : ∃ y : ByteArray, cs = (strC y).toList ∧ y.size ≤ maxLen := by
  obtain ⟨s, e, _, hs⟩ := DataW.trod_string Try.underlying9 h
  exact ⟨s, e, hs⟩
set_option maxRecDepth 100000 in
theorem prod_open {fuel : Nat} {cs : List Value} {x : DataW H × List MemPlace} (h : DataW.trod enc Try.prog w base spare held fuel 46 cs = some x) : ∃ y : ProdM, cs = (prodC y).toList ∧ AProd w y := by
  obtain ⟨n, _, hl, hf⟩ := trod_fields Try.underlying46 h
  obtain ⟨_, h0⟩ := hf 0 _ rfl
  obtain ⟨_, h1⟩ := hf 1 _ rfl
  obtain ⟨_, h2⟩ := hf 2 _ rfl
  obtain ⟨_, h3⟩ := hf 3 _ rfl
  obtain ⟨_, h4⟩ := hf 4 _ rfl
  obtain ⟨_, h5⟩ := hf 5 _ rfl
  obtain ⟨_, h6⟩ := hf 6 _ rfl
  rw [cellsOf46] at hl
  match cs, hl with
  | [a, b, c, d, e, f, g], _ =>
    simp only [cellsOf3, cellsOf4, cellsOf9, cellsOf43, cellsOf44, List.drop_zero, List.take_succ_cons, List.take_zero, List.drop_succ_cons] at h0 h1 h2 h3 h4 h5 h6
    obtain ⟨x0, rfl, r0⟩ := open_i64 Try.underlying3 h0
    obtain ⟨ra, len, rc, rfl⟩ : ∃ ra len rc, b = .slice ra len rc := by
      rcases DataW.trod_slice Try.underlying43 h1 with ⟨e0, _⟩ | ⟨_, _, _, _, _, _, _, e0, _⟩
      · simp at e0; exact ⟨_, _, _, e0⟩
      · simp at e0; exact ⟨_, _, _, e0⟩
    obtain ⟨dd, rfl, q1, q2, q3, q4, q5⟩ := row_open (k := 6) (cs := symC) (G := ASym) (GW := NoG) Try.underlying43 cellsOf68 (by omega) (fun _ => rfl) h1 (fun _ _ => trivial) (fun _ _ _ _ h => sym_open h)
    obtain ⟨s, rfl, hs⟩ := open_str h2
    obtain ⟨x3, rfl, r3⟩ := open_i64 Try.underlying44 h3
    obtain ⟨x4, rfl⟩ := open_bl h4
    obtain ⟨x5, rfl⟩ := open_bl h5
    obtain ⟨x6, rfl, r6⟩ := open_i64 Try.underlying3 h6
    exact ⟨⟨x0, ra, rc, dd, s, x3, x4, x5, x6⟩, rfl, ⟨q1, r0, r3, r6, hs, q2, q3, q4, q5⟩⟩
set_option maxRecDepth 100000 in
theorem gram_open {fuel : Nat} {cs : List Value} {x : DataW H × List MemPlace} (h : DataW.trod enc Try.prog w base spare held fuel 27 cs = some x) : ∃ y : GramM, cs = (gramC y).toList ∧ AGram w y := by
  obtain ⟨n, _, hl, hf⟩ := trod_fields Try.underlying27 h
  obtain ⟨_, h0⟩ := hf 0 _ rfl
  obtain ⟨_, h1⟩ := hf 1 _ rfl
  obtain ⟨_, h2⟩ := hf 2 _ rfl
  obtain ⟨_, h3⟩ := hf 3 _ rfl
  obtain ⟨_, h4⟩ := hf 4 _ rfl
  rw [cellsOf27] at hl
  match cs, hl with
  | [a, b, c, d, e], _ =>
    simp only [cellsOf3, cellsOf22, cellsOf23, cellsOf24, cellsOf25, List.drop_zero, List.take_succ_cons, List.take_zero, List.drop_succ_cons] at h0 h1 h2 h3 h4
    have sl : ∀ {T E : Nat} {v : Value} {m : Nat} {x : DataW H × List MemPlace}, Try.prog.underlying T = some (.slice E) → DataW.trod enc Try.prog w base spare held m T [v] = some x → ∃ ra len rc, v = .slice ra len rc := by
      intro T E v m x hT hx
      rcases DataW.trod_slice hT hx with ⟨e0, _⟩ | ⟨_, _, _, _, _, _, _, e0, _⟩
      · simp at e0; exact ⟨_, _, _, e0⟩
      · simp at e0; exact ⟨_, _, _, e0⟩
    obtain ⟨sa, slen, sc, rfl⟩ := sl Try.underlying22 h0
    obtain ⟨ds, rfl, s1, s2, s3, s4, s5⟩ := row_open (k := 1) (cs := strC) (G := fun s => s.size ≤ maxLen) (GW := NoG) Try.underlying22 cellsOf9 (by omega) (fun _ => rfl) h0 (fun _ _ => trivial) (fun _ _ _ _ h => name_open h)
    obtain ⟨pa, plen, pc, rfl⟩ := sl Try.underlying23 h1
    obtain ⟨dp, rfl, p1, p2, p3, p4, p5⟩ := row_open (k := 7) (cs := prodC) (G := AProd w) (GW := ProdIn) Try.underlying23 cellsOf46 (by omega) (fun _ => rfl) h1 (fun _ h => h.inn) (fun _ _ _ _ h => prod_open h)
    obtain ⟨st, rfl, r2⟩ := open_i64 Try.underlying3 h2
    obtain ⟨fa, flen, fc, rfl⟩ := sl Try.underlying24 h3
    obtain ⟨df, rfl, f1, f2, f3, f4, f5⟩ := row_open (k := 3) (cs := forC) (G := FitF) (GW := NoG) Try.underlying24 cellsOf78 (by omega) (fun _ => rfl) h3 (fun _ _ => trivial) (fun _ _ _ _ h => for_open h)
    obtain ⟨wa, wlen, wc, rfl⟩ := sl Try.underlying25 h4
    obtain ⟨dw, rfl, w1, w2, w3, w4, w5⟩ := row_open (k := 5) (cs := folC) (G := fun f => I64 f.sort) (GW := NoG) Try.underlying25 cellsOf80 (by omega) (fun _ => rfl) h4 (fun _ _ => trivial) (fun _ _ _ _ h => fol_open h)
    exact ⟨⟨sa, sc, ds, pa, pc, dp, st, fa, fc, df, wa, wc, dw⟩, rfl, ⟨⟨s1, p1, f1, w1⟩, r2, s2, p2, f2, w2, s3, s4, s5, p3, p4, p5, f3, f4, f5, w3, w4, w5⟩⟩

/-- A tree of an argument: at every depth its bytes are bytes, and its kids are no more than a slice has. -/
def ATree (w : World) : Nat → TreeM → Prop
  | 0, _ => True
  | d + 1, .node p b ka kc kids => I64 p ∧ (0 ≤ b ∧ b < 256) ∧ kids.length ≤ kc ∧ kc ≤ maxLen ∧ (ka = none → kc = 0) ∧ ∀ k, k ∈ kids → ATree w d k
set_option maxRecDepth 100000 in
theorem tree_open : ∀ (fuel : Nat) (cs : List Value) (x : DataW H × List MemPlace), DataW.trod enc Try.prog w base spare held fuel 51 cs = some x → ∃ y : TreeM, cs = (treeC y).toList ∧ TreeIn w y ∧ ∀ d, ATree w d y := by
  intro fuel
  induction fuel using Nat.strongRecOn with
  | _ fuel ih =>
    intro cs x h
    obtain ⟨n, hn, hl, hf⟩ := trod_fields Try.underlying51 h
    obtain ⟨_, h0⟩ := hf 0 _ rfl
    obtain ⟨_, h1⟩ := hf 1 _ rfl
    obtain ⟨_, h2⟩ := hf 2 _ rfl
    rw [cellsOf51] at hl
    match cs, hl with
    | [a, b, c], _ =>
      simp only [cellsOf3, cellsOf5, cellsOf49, List.drop_zero, List.take_succ_cons, List.take_zero, List.drop_succ_cons] at h0 h1 h2
      obtain ⟨x0, rfl, r0⟩ := open_i64 Try.underlying3 h0
      obtain ⟨x1, rfl, r1⟩ := open_u8 h1
      obtain ⟨ra, len, rc, rfl⟩ : ∃ ra len rc, c = .slice ra len rc := by
        rcases DataW.trod_slice Try.underlying49 h2 with ⟨e0, _⟩ | ⟨_, _, _, _, _, _, _, e0, _⟩
        · simp at e0; exact ⟨_, _, _, e0⟩
        · simp at e0; exact ⟨_, _, _, e0⟩
      obtain ⟨dd, rfl, q1, q2, q3, q4, q5⟩ := row_open (k := 3) (cs := treeC) (G := fun t => TreeIn w t ∧ ∀ d, ATree w d t) (GW := TreeIn) Try.underlying49 cellsOf51 (by omega) (fun x => by cases x; rfl) h2 (fun _ h => h.1) (fun m c y hm h => ih m (by omega) c y h)
      refine ⟨.node x0 x1 ra rc dd, rfl, (tree_in ..).2 q1, fun d => ?_⟩
      cases d with
      | zero => trivial
      | succ d => exact ⟨r0, r1, q3, q4, q5, fun k hk => (q2 k hk).2 d⟩
end Go.Proofs.Ytiihdbchchnncaa
end
section
namespace Go.Proofs.Ytiihdbchchnncaa
open Go Go.RowKit

def vastP (p : ProdM) : Bool := decide (40 < p.right.length) || decide (1500 < p.cons.size)
/-- Is a grammar more than is done? -/
def vastB (g : GramM) : Bool := decide (40 < g.sorts.length) || (decide (60 < g.prods.length) || (decide (40 < g.forbid.length) || (decide (40 < g.follow.length) || (g.sorts.any (fun s => decide (1500 < s.size)) || g.prods.any vastP))))

theorem any_yes {α : Type} {p : α → Bool} {l : List α} {i : Nat} {x : α} (h : l[i]? = some x) (hp : p x = true) : l.any p = true := List.any_eq_true.2 ⟨x, List.mem_of_getElem? h, hp⟩
theorem any_no {α : Type} {p : α → Bool} {l : List α} (h : ∀ (i : Nat) (x : α), l[i]? = some x → p x = false) : l.any p = false := by
  rw [List.any_eq_false]
  intro x hx
  obtain ⟨i, hi⟩ := List.mem_iff_getElem?.1 hx
  simp [h i x hi]

set_option maxRecDepth 100000 in
set_option maxHeartbeats 4000000 in
theorem vast_big (g : GramM) (w : World) (h : 40 < g.sorts.length ∨ 60 < g.prods.length ∨ 40 < g.forbid.length ∨ 40 < g.follow.length) (m1 : g.sorts.length ≤ maxLen) (m2 : g.prods.length ≤ maxLen) (m3 : g.forbid.length ≤ maxLen) (m4 : g.follow.length ≤ maxLen) :
    Calls Try.prog 9 #[gramV g] w fun e w' => e = .returned (.bool (vastB g)) ∧ Below w.heap.size w w' := by
  have HE : Hid (vastB g = true) := Lib.hid (by unfold vastB; simp only [Bool.or_eq_true, decide_eq_true_eq]; rcases h with h | h | h | h <;> simp [h])
  unfold maxLen at m1 m2 m3 m4
  obtain ⟨q, hq⟩ : ∃ q, q = vastB g := ⟨_, rfl⟩
  rw [← hq] at HE ⊢
  clear hq
  unfold gramV gramC at *
  generalize g.sorts.length = n1 at *
  generalize g.prods.length = n2 at *
  generalize g.forbid.length = n3 at *
  generalize g.follow.length = n4 at *
  by_cases h1 : 40 < n1
  · have g1 : (40 : Int) < (n1 : Int) := by omega
    go_enter Try.func9, Try.ntmps9
    go_wp2
    go_ret
    exact ⟨by rw [HE.out]; rfl, (Below.refl _ w).alloc (Nat.le_refl _) _⟩
  · have g1 : decide ((40 : Int) < (n1 : Int)) = false := by simp; omega
    by_cases h2 : 60 < n2
    · have g2 : (60 : Int) < (n2 : Int) := by omega
      clear h
      go_enter Try.func9, Try.ntmps9
      go_wp2
      go_ret
      exact ⟨by rw [HE.out]; rfl, (Below.refl _ w).alloc (Nat.le_refl _) _⟩
    · have g2 : decide ((60 : Int) < (n2 : Int)) = false := by simp; omega
      by_cases h3 : 40 < n3
      · have g3 : (40 : Int) < (n3 : Int) := by omega
        clear h
        go_enter Try.func9, Try.ntmps9
        go_wp2
        go_ret
        exact ⟨by rw [HE.out]; rfl, (Below.refl _ w).alloc (Nat.le_refl _) _⟩
      · have g3 : decide ((40 : Int) < (n3 : Int)) = false := by simp; omega
        have g4 : (40 : Int) < (n4 : Int) := by omega
        clear h
        go_enter Try.func9, Try.ntmps9
        go_wp2
        go_ret
        exact ⟨by rw [HE.out]; rfl, (Below.refl _ w).alloc (Nat.le_refl _) _⟩
set_option maxRecDepth 100000 in
set_option maxHeartbeats 4000000 in
theorem vast_small (g : GramM) (w : World) (hg : GIn w g) (h1 : g.sorts.length ≤ 40) (h2 : g.prods.length ≤ 60) (h3 : g.forbid.length ≤ 40) (h4 : g.follow.length ≤ 40) (hn : ∀ s, s ∈ g.sorts → s.size ≤ maxLen) (hp : ∀ p, p ∈ g.prods → p.right.length ≤ maxLen ∧ p.cons.size ≤ maxLen) :
    Calls Try.prog 9 #[gramV g] w fun e w' => e = .returned (.bool (vastB g)) ∧ Below w.heap.size w w' := by
  have hA : Below w.heap.size w (w.alloc (.cells (gramC g) 27)) := (Below.refl _ w).alloc (Nat.le_refl _) _
  have HS := Lib.hid hg.sorts
  have HP := Lib.hid hg.prods
  have HE : Hid (vastB g = (g.sorts.any (fun s => decide (1500 < s.size)) || g.prods.any vastP)) := Lib.hid (by
    unfold vastB
    rw [decide_eq_false (by omega : ¬ 40 < g.sorts.length), decide_eq_false (by omega : ¬ 60 < g.prods.length), decide_eq_false (by omega : ¬ 40 < g.forbid.length), decide_eq_false (by omega : ¬ 40 < g.follow.length)]
    simp)
  obtain ⟨q, hq⟩ : ∃ q, q = vastB g := ⟨_, rfl⟩
  rw [← hq] at HE ⊢
  have HN := Lib.hid hn
  have HQ := Lib.hid hp
  clear hq hg hn hp hA
  unfold gramV gramC at *
  obtain ⟨n1, hn1⟩ : ∃ n, n = g.sorts.length := ⟨_, rfl⟩
  obtain ⟨n2, hn2⟩ : ∃ n, n = g.prods.length := ⟨_, rfl⟩
  rw [← hn1] at h1 ⊢
  rw [← hn2] at h2 ⊢
  generalize g.forbid.length = n3 at *
  generalize g.follow.length = n4 at *
  have HN1 := Lib.hid hn1
  have HN2 := Lib.hid hn2
  have g1 : decide ((40 : Int) < (n1 : Int)) = false := by simp; omega
  have g2 : decide ((60 : Int) < (n2 : Int)) = false := by simp; omega
  have g3 : decide ((40 : Int) < (n3 : Int)) = false := by simp; omega
  have g4 : decide ((40 : Int) < (n4 : Int)) = false := by simp; omega
  clear hn1 hn2
  go_enter Try.func9, Try.ntmps9
  go_wp2
  go_loop [3] (fun i => ∃ k : Nat, i = .int .i64 k ∧ k ≤ n1 ∧ Hid (∀ (j : Nat) (x : ByteArray), j < k → g.sorts[j]? = some x → x.size ≤ 1500)) (fun i => n1 - (intOf i).toNat)
  case atStart => exact ⟨0, rfl, Nat.zero_le _, Lib.hid (fun j x hj => by omega)⟩
  case round =>
    obtain ⟨k, rfl, hk, hS⟩ := hrel
    by_cases hlt : k < n1
    · obtain ⟨x, hx⟩ : ∃ x, g.sorts[k]? = some x := ⟨_, List.getElem?_eq_getElem (by rw [← HN1.out]; exact hlt)⟩
      obtain ⟨b1, o1, e1, hb1, hc1, _⟩ := HS.out k x hx
      have hz := HN.out x (List.mem_of_getElem? hx)
      have c1 := Str_at hc1
      simp only [Nat.mul_one] at c1
      have E1 := Lib.hid e1
      clear hc1 e1
      have f1 : (k : Int) < (n1 : Int) := by omega
      unfold maxLen at hz
      rw [E1.out]
      by_cases hbig : 1500 < x.size
      · have HE2 : Hid (q = true) := Lib.hid (by rw [HE.out, any_yes hx (by simpa using hbig)]; rfl)
        have f2 : (1500 : Int) < (x.size : Int) := by omega
        clear hx HS HP HN HQ hS E1
        go_wp2
        go_ret
        exact ⟨by rw [HE2.out]; rfl, (Below.refl _ w).alloc (Nat.le_refl _) _⟩
      · have HX := Lib.hid hx
        have f2 : decide ((1500 : Int) < (x.size : Int)) = false := by simp; omega
        clear hx
        go_wp2
        go_round
        case rel => exact ⟨k + 1, by go_num, by omega, Lib.hid (fun j y hj hy => by
          by_cases e : j = k
          · subst e; rw [HX.out] at hy; cases hy; omega
          · exact hS.out j y (by omega) hy)⟩
        case measure => simp [intOf]; omega
    · obtain rfl : k = n1 := by omega
      have HE2 : Hid (q = g.prods.any vastP) := Lib.hid (by
        rw [HE.out, any_no (l := g.sorts) (fun i x hx => by have := hS.out i x (by have := (List.getElem?_eq_some_iff.1 hx).1; have := HN1.out; omega) hx; simp; omega)]; rfl)
      clear hS HS HN HE
      go_wp2
      go_loop [4] (fun i => ∃ k : Nat, i = .int .i64 k ∧ k ≤ n2 ∧ Hid (∀ (j : Nat) (x : ProdM), j < k → g.prods[j]? = some x → vastP x = false)) (fun i => n2 - (intOf i).toNat)
      case atStart => exact ⟨0, rfl, Nat.zero_le _, Lib.hid (fun j x hj => by omega)⟩
      case round =>
        obtain ⟨k, rfl, hk, hS⟩ := hrel
        by_cases hlt : k < n2
        · obtain ⟨x, hx⟩ : ∃ x, g.prods[k]? = some x := ⟨_, List.getElem?_eq_getElem (by rw [← HN2.out]; exact hlt)⟩
          obtain ⟨b1, o1, e1, hb1, hc1, _⟩ := HP.out k x hx
          obtain ⟨hz1, hz2⟩ := HQ.out x (List.mem_of_getElem? hx)
          obtain ⟨c10, c11, c12, _, _, _, _⟩ := Prod_at hc1
          have E1 := Lib.hid e1
          clear hc1 e1
          have f1 : (k : Int) < (n2 : Int) := by omega
          unfold maxLen at hz1 hz2
          rw [E1.out]
          have HV : Hid (vastP x = (decide (40 < x.right.length) || decide (1500 < x.cons.size))) := Lib.hid rfl
          have HQ2 : Hid (vastP x = true → q = true) := Lib.hid (fun h => by rw [HE2.out, any_yes hx h])
          have HX := Lib.hid hx
          clear hx
          generalize x.right.length = m at *
          by_cases hb : 40 < m
          · have HE3 : Hid (q = true) := Lib.hid (HQ2.out (by rw [HV.out]; simp [hb]))
            have f2 : (40 : Int) < (m : Int) := by omega
            clear HP HQ hS E1 HX HV HQ2 HE2
            go_wp2
            go_ret
            exact ⟨by rw [HE3.out]; rfl, (Below.refl _ w).alloc (Nat.le_refl _) _⟩
          · have f2 : decide ((40 : Int) < (m : Int)) = false := by simp; omega
            by_cases hb2 : 1500 < x.cons.size
            · have HE3 : Hid (q = true) := Lib.hid (HQ2.out (by rw [HV.out]; simp [hb2]))
              have f3 : (1500 : Int) < (x.cons.size : Int) := by omega
              clear HP HQ hS E1 HX HV HQ2 HE2
              go_wp2
              go_ret
              exact ⟨by rw [HE3.out]; rfl, (Below.refl _ w).alloc (Nat.le_refl _) _⟩
            · have HE3 : Hid (vastP x = false) := Lib.hid (by rw [HV.out, decide_eq_false hb, decide_eq_false hb2]; rfl)
              have f3 : decide ((1500 : Int) < (x.cons.size : Int)) = false := by simp; omega
              clear HV HQ2
              go_wp2
              go_round
              case rel => exact ⟨k + 1, by go_num, by omega, Lib.hid (fun j y hj hy => by
                by_cases e : j = k
                · subst e; rw [HX.out] at hy; cases hy; exact HE3.out
                · exact hS.out j y (by omega) hy)⟩
              case measure => simp [intOf]; omega
        · obtain rfl : k = n2 := by omega
          have HE3 : Hid (q = false) := Lib.hid (by
            rw [HE2.out]
            exact any_no (fun i x hx => hS.out i x (by have := (List.getElem?_eq_some_iff.1 hx).1; have := HN2.out; omega) hx))
          clear hS HP HE2
          go_wp2
          go_ret
          exact ⟨by rw [HE3.out]; rfl, (Below.refl _ w).alloc (Nat.le_refl _) _⟩
/-- What a grammar that is not too vast is bound by. -/
theorem AGram.fit {w : World} {g : GramM} (h : AGram w g) (hv : vastB g = false) : FitG g := by
  unfold vastB at hv
  simp only [Bool.or_eq_false_iff, decide_eq_false_iff_not, List.any_eq_false, decide_eq_true_eq] at hv
  obtain ⟨h1, h2, h3, h4, h5, h6⟩ := hv
  refine ⟨⟨by omega, by omega, fun x hx => ?_, by omega, by omega, fun f hf => (h.forb f hf).at_, fun s hs => ?_⟩, h.forb, h.fol⟩
  · have := h6 x hx
    unfold vastP at this
    simp at this
    omega
  · have := h5 s hs
    omega
theorem vast_any (g : GramM) (w : World) (h : AGram w g) : Calls Try.prog 9 #[gramV g] w fun e w' => e = .returned (.bool (vastB g)) ∧ Below w.heap.size w w' := by
  by_cases hb : 40 < g.sorts.length ∨ 60 < g.prods.length ∨ 40 < g.forbid.length ∨ 40 < g.follow.length
  · exact vast_big g w hb (Nat.le_trans h.sl h.sc) (Nat.le_trans h.pl h.pc) (Nat.le_trans h.fl h.fc) (Nat.le_trans h.wl h.wc)
  · exact vast_small g w h.inn (by omega) (by omega) (by omega) (by omega) h.names (fun p hp => ⟨Nat.le_trans (h.prods p hp).len (h.prods p hp).cap, (h.prods p hp).cons⟩)
end Go.Proofs.Ytiihdbchchnncaa
end
section
namespace Go.Proofs.Ytiihdbchchnncaa
open Go Go.RowKit

section
variable {P : Program} {w : World} {ops : Array Oper} {o : Oper} {a : Act} {K : Act → World → Prop} {Q : Exit → Act → World → Prop} {E : Prop}
/-- 'append(s, x...)' in a region that draws its order, x a list as it lies in memory. -/
theorem step_append_row {α : Type} {cs : α → Array Value} {G : World → α → Prop} (w : World) (hgd : o.guard = none) (s x : Operand) (t : TypeId)
    (ho : o.op = .call { callee := .builtin .append, args := #[s, x], argTypes := #[t, t] })
    (base : Nat) (e : TypeId) (i : TypeInfo) (z : Value) (size bytes : Nat) (ht : P.underlying t = some (.slice e)) (hi : P.info? e = some i) (hz : i.zero = some z)
    (hsize : i.size = size) (hby : i.bytes = bytes) (hzs : z.cells.size = size) (hsz : 0 < size)
    (v : Value) (n : Nat) (xs : List Value) (hs : a.eval s = v) (hown : w.ownsRow base e size v n xs)
    (ad : Option Addr) (c : Nat) (l : List α) (hx : a.eval x = .slice ad l.length c) (hrow : RowOf size cs G w ad l) (hk : ∀ x, (cs x).size = size) (h1 : ∀ x, ∀ u ∈ (cs x).toList, u.oneCell' = true) (hnil : ad = none → c = 0)
    (h63 : n + l.length ≤ maxLen) (hbytes : (n + l.length) * bytes ≤ 140737488355328) (hbase : base ≤ w.heap.size)
    (h : ∀ v' w', w'.ownsRow base e size v' (n + l.length) (xs ++ cellsL cs l) → w.grownBy w' v.ownBlock → K (a.put o.dst v') w') :
    if Region.wanted o (yielded ops a.tmps) = true then Oper.wp P o a w K Q else E := by
  have hw : Region.wanted o (yielded ops a.tmps) = true := by simp [Region.wanted, hgd]
  rw [if_pos hw]
  cases ad with
  | none =>
    have hl : l = [] := by
      cases l with
      | nil => rfl
      | cons y r => obtain ⟨_, _, e, _⟩ := hrow 0 y rfl; cases e
    subst hl
    rw [hnil rfl] at hx
    have hrun := run_append_owned_none (P := P) (w := w) base t o.type e i size ht hi v n xs hown
    have hK := h v w (by simpa [cellsL] using hown) (World.grownBy.refl _ _)
    unfold Oper.wp
    simp [execOp, ho, resolve, invoke, builtin, hs, hx, hrun, Result.andThen]
    exact hK
  | some p =>
    obtain ⟨v', w', hrun, h2, h3, _⟩ := run_append_own (P := P) (w := w) base t o.type e i z size bytes ht hi hz hsize hby hzs hsz v n xs hown p l.length c (cellsL cs l) (cellsL_length hk l) (by
      intro j u hj
      cases hl : l with
      | nil => rw [hl] at hj; simp [cellsL] at hj
      | cons y r =>
        obtain ⟨b, off, e, _⟩ := hrow 0 y (by rw [hl]; rfl)
        cases e
        exact row_cells hk hsz hrow j u hj) (by
      intro u hu
      unfold cellsL at hu
      obtain ⟨y, _, hy⟩ := List.mem_flatMap.1 hu
      exact h1 y u hy) h63 hbytes hbase
    have hK := h v' w' h2 h3
    unfold Oper.wp
    simp [execOp, ho, resolve, invoke, builtin, hs, hx, hrun, Result.andThen]
    exact hK
end

theorem str_one (x : ByteArray) : ∀ u ∈ (strC x).toList, u.oneCell' = true := by simp [strC, Value.oneCell']
theorem prod_one (x : ProdM) : ∀ u ∈ (prodC x).toList, u.oneCell' = true := by simp [prodC, Value.oneCell']
theorem for_one (x : ForM) : ∀ u ∈ (forC x).toList, u.oneCell' = true := by simp [forC, Value.oneCell']
theorem fol_one (x : FolM) : ∀ u ∈ (folC x).toList, u.oneCell' = true := by simp [folC, Value.oneCell']

theorem grownBy_setI (W : World) (b i : Nat) (v : Value) : W.grownBy (W.setCell ⟨b, i, none⟩ v) (some b) :=
  ⟨rfl, rfl, rfl, by simp, fun k _ hne => Below.heap_setCell W ⟨b, i, none⟩ v k (fun e => hne (by rw [e]))⟩

/-- A production whose symbols lie elsewhere. -/
def atP (x : ProdM) (ra : Option Addr) (rc : Nat) : ProdM := ⟨x.left, ra, rc, x.right, x.cons, x.role, x.prefer, x.avoid, x.frm⟩
theorem bare_at (x : ProdM) (ra : Option Addr) (rc : Nat) : bareP (atP x ra rc) = bareP x := rfl
theorem cells_right {l : List ProdM} {k : Nat} {s : ProdM} (h : l[k]? = some s) (ra : Option Addr) (rc : Nat) : (cellsL prodC l).set (k * 7 + 1) (.slice ra s.right.length rc) = cellsL prodC (l.set k (atP s ra rc)) := by
  induction l generalizing k with
  | nil => simp at h
  | cons y r ih =>
    have e : ∀ (z : ProdM) (q : List ProdM), cellsL prodC (z :: q) = (prodC z).toList ++ cellsL prodC q := fun z q => by simp [cellsL]
    cases k with
    | zero =>
      simp at h
      subst h
      rw [List.set_cons_zero, e, e]
      simp [prodC, atP]
    | succ k =>
      rw [List.set_cons_succ, e, e, List.set_append_right _ _ (by simp [prodC]; omega), ← ih (by simpa using h)]
      congr 2
      simp [prodC]; omega

/-- A list's row: where it was, or in memory of one's own. -/
def Ow (W : World) (N e s : Nat) (v old : Value) (n : Nat) (xs : List Value) (own : Bool) : Prop := if own then W.ownsRow N e s v n xs else v = old
theorem Ow.to {W W' : World} {N e s : Nat} {v old : Value} {n : Nat} {xs : List Value} {own : Bool} (h : Ow W N e s v old n xs own) (k : W.ownsRow N e s v n xs → W'.ownsRow N e s v n xs) : Ow W' N e s v old n xs own := by
  unfold Ow at *
  cases own with
  | true => exact k h
  | false => exact h

/-- What copied's blocks hold. -/
structure CS (g : GramM) (w : World) (o0 o1 o3 o4 : Bool) (v0 v1 v3 v4 : Value) (P : List ProdM) (k : Nat) (wr : World) : Prop where
  bg : Blk wr w.heap.size 27 (gramC g)
  br : Blk wr (w.heap.size + 1) 27 #[.slice none 0 0, .slice none 0 0, .int .i64 0, .slice none 0 0, .slice none 0 0]
  bo : Blk wr (w.heap.size + 2) 27 #[v0, v1, .int .i64 g.start, v3, v4]
  b : Below w.heap.size w wr
  lt : w.heap.size + 3 ≤ wr.heap.size
  r0 : Ow wr (w.heap.size + 3) 9 1 v0 (.slice g.sa g.sorts.length g.sc) g.sorts.length (cellsL strC g.sorts) o0
  r1 : Ow wr (w.heap.size + 3) 46 7 v1 (.slice g.pa g.prods.length g.pc) g.prods.length (cellsL prodC P) o1
  r3 : Ow wr (w.heap.size + 3) 78 3 v3 (.slice g.fa g.forbid.length g.fc) g.forbid.length (cellsL forC g.forbid) o3
  r4 : Ow wr (w.heap.size + 3) 80 5 v4 (.slice g.wa g.follow.length g.wc) g.follow.length (cellsL folC g.follow) o4
  rs : ∀ (i : Nat) (x : ProdM), i < k → P[i]? = some x → wr.ownsRow (w.heap.size + 3) 68 6 (.slice x.ra x.right.length x.rc) x.right.length (cellsL symC x.right)
  pb : P.map bareP = g.prods.map bareP
  po : ∀ (i : Nat), k ≤ i → P[i]? = g.prods[i]?

section
variable {g : GramM} {w : World} {o0 o1 o3 o4 : Bool} {v0 v1 v3 v4 : Value} {P : List ProdM} {k : Nat} {wr W : World}
theorem CS.below (h : CS g w o0 o1 o3 o4 v0 v1 v3 v4 P k wr) (hB : Below wr.heap.size wr W) : CS g w o0 o1 o3 o4 v0 v1 v3 v4 P k W :=
  ⟨h.bg.below hB h.bg.lt, h.br.below hB h.br.lt, h.bo.below hB h.bo.lt, h.b.trans (hB.mono h.b.size), Nat.le_trans h.lt hB.size, h.r0.to fun r => own_below r hB (Nat.le_refl _), h.r1.to fun r => own_below r hB (Nat.le_refl _), h.r3.to fun r => own_below r hB (Nat.le_refl _),
    h.r4.to fun r => own_below r hB (Nat.le_refl _), fun i x hi hx => own_below (h.rs i x hi hx) hB (Nat.le_refl _), h.pb, h.po⟩
theorem grown_below (hg : wr.grownBy W none) : Below wr.heap.size wr W := ⟨hg.os, hg.tape, hg.output, hg.size, fun j hj => hg.block j hj (fun e => by cases e)⟩
theorem CS.put0 (h : CS g w false o1 o3 o4 v0 v1 v3 v4 P k wr) (v : Value) (hn : wr.ownsRow (w.heap.size + 3) 9 1 v g.sorts.length (cellsL strC g.sorts)) : CS g w true o1 o3 o4 v v1 v3 v4 P k (wr.setCell ⟨w.heap.size + 2, 0, none⟩ v) := by
  have hb : w.heap.size + 2 < w.heap.size + 3 := by omega
  refine ⟨h.bg.other (by show w.heap.size ≠ w.heap.size + 2; omega) _, h.br.other (by show w.heap.size + 1 ≠ w.heap.size + 2; omega) _, by simpa using h.bo.set 0 v, h.b.setCell (p := ⟨w.heap.size + 2, 0, none⟩) (by show w.heap.size ≤ w.heap.size + 2; omega) _, by rw [World.size_setCell]; exact h.lt,
    own_put hn hb _, h.r1.to fun r => own_put r hb _, h.r3.to fun r => own_put r hb _, h.r4.to fun r => own_put r hb _, fun i x hi hx => own_put (h.rs i x hi hx) hb _, h.pb, h.po⟩
theorem CS.put1 (h : CS g w o0 false o3 o4 v0 v1 v3 v4 P k wr) (v : Value) (hn : wr.ownsRow (w.heap.size + 3) 46 7 v g.prods.length (cellsL prodC P)) : CS g w o0 true o3 o4 v0 v v3 v4 P k (wr.setCell ⟨w.heap.size + 2, 1, none⟩ v) := by
  have hb : w.heap.size + 2 < w.heap.size + 3 := by omega
  refine ⟨h.bg.other (by show w.heap.size ≠ w.heap.size + 2; omega) _, h.br.other (by show w.heap.size + 1 ≠ w.heap.size + 2; omega) _, by simpa using h.bo.set 1 v, h.b.setCell (p := ⟨w.heap.size + 2, 1, none⟩) (by show w.heap.size ≤ w.heap.size + 2; omega) _, by rw [World.size_setCell]; exact h.lt,
    h.r0.to fun r => own_put r hb _, own_put hn hb _, h.r3.to fun r => own_put r hb _, h.r4.to fun r => own_put r hb _, fun i x hi hx => own_put (h.rs i x hi hx) hb _, h.pb, h.po⟩
theorem CS.put3 (h : CS g w o0 o1 false o4 v0 v1 v3 v4 P k wr) (v : Value) (hn : wr.ownsRow (w.heap.size + 3) 78 3 v g.forbid.length (cellsL forC g.forbid)) : CS g w o0 o1 true o4 v0 v1 v v4 P k (wr.setCell ⟨w.heap.size + 2, 3, none⟩ v) := by
  have hb : w.heap.size + 2 < w.heap.size + 3 := by omega
  refine ⟨h.bg.other (by show w.heap.size ≠ w.heap.size + 2; omega) _, h.br.other (by show w.heap.size + 1 ≠ w.heap.size + 2; omega) _, by simpa using h.bo.set 3 v, h.b.setCell (p := ⟨w.heap.size + 2, 3, none⟩) (by show w.heap.size ≤ w.heap.size + 2; omega) _, by rw [World.size_setCell]; exact h.lt,
    h.r0.to fun r => own_put r hb _, h.r1.to fun r => own_put r hb _, own_put hn hb _, h.r4.to fun r => own_put r hb _, fun i x hi hx => own_put (h.rs i x hi hx) hb _, h.pb, h.po⟩
theorem CS.put4 (h : CS g w o0 o1 o3 false v0 v1 v3 v4 P k wr) (v : Value) (hn : wr.ownsRow (w.heap.size + 3) 80 5 v g.follow.length (cellsL folC g.follow)) : CS g w o0 o1 o3 true v0 v1 v3 v P k (wr.setCell ⟨w.heap.size + 2, 4, none⟩ v) := by
  have hb : w.heap.size + 2 < w.heap.size + 3 := by omega
  refine ⟨h.bg.other (by show w.heap.size ≠ w.heap.size + 2; omega) _, h.br.other (by show w.heap.size + 1 ≠ w.heap.size + 2; omega) _, by simpa using h.bo.set 4 v, h.b.setCell (p := ⟨w.heap.size + 2, 4, none⟩) (by show w.heap.size ≤ w.heap.size + 2; omega) _, by rw [World.size_setCell]; exact h.lt,
    h.r0.to fun r => own_put r hb _, h.r1.to fun r => own_put r hb _, h.r3.to fun r => own_put r hb _, own_put hn hb _, fun i x hi hx => own_put (h.rs i x hi hx) hb _, h.pb, h.po⟩
/-- A production's symbols copied. -/
theorem CS.putR (h : CS g w o0 true o3 o4 v0 v1 v3 v4 P k wr) {q : Nat} {cap : Nat} (hv : v1 = .slice (some ⟨q, 0, none⟩) g.prods.length cap) {x : ProdM} (hx : P[k]? = some x) (ra : Option Addr) (rc : Nat)
    (hn : wr.ownsRow (w.heap.size + 3) 68 6 (.slice ra x.right.length rc) x.right.length (cellsL symC x.right)) :
    CS g w o0 true o3 o4 v0 v1 v3 v4 (P.set k (atP x ra rc)) (k + 1) (wr.setCell ⟨q, k * 7 + 1, none⟩ (.slice ra x.right.length rc)) := by
  have hr : wr.ownsRow (w.heap.size + 3) 46 7 v1 g.prods.length (cellsL prodC P) := h.r1
  subst hv
  obtain ⟨q', hq', hge⟩ : ∃ q', q = q' ∧ w.heap.size + 3 ≤ q' := by
    rcases hr.2 with ⟨e, _⟩ | ⟨q', _, _, e, h2, _⟩
    · cases e
    · simp only [Value.slice.injEq, Option.some.injEq, Addr.mk.injEq, and_true] at e
      exact ⟨q', e.1, h2⟩
  subst hq'
  have hg := grownBy_setI wr q (k * 7 + 1) (.slice ra x.right.length rc)
  have hoth : ∀ {e s : Nat} {v : Value} {n : Nat} {xs : List Value}, e ≠ 46 → wr.ownsRow (w.heap.size + 3) e s v n xs → (wr.setCell ⟨q, k * 7 + 1, none⟩ (.slice ra x.right.length rc)).ownsRow (w.heap.size + 3) e s v n xs := fun hne r => own_other r hr hne hg
  have hkl : k < P.length := (List.getElem?_eq_some_iff.1 hx).1
  refine ⟨h.bg.other (by show w.heap.size ≠ q; omega) _, h.br.other (by show w.heap.size + 1 ≠ q; omega) _, h.bo.other (by show w.heap.size + 2 ≠ q; omega) _, h.b.setCell (p := ⟨q, k * 7 + 1, none⟩) (by show w.heap.size ≤ q; omega) _, by rw [World.size_setCell]; exact h.lt,
    h.r0.to (hoth (by decide)), ?_, h.r3.to (hoth (by decide)), h.r4.to (hoth (by decide)), fun i y hi hy => ?_, ?_, fun i hi => ?_⟩
  · show World.ownsRow _ _ _ _ _ _ _
    rw [← cells_right hx]
    exact own_set hr _ _
  · rw [List.getElem?_set] at hy
    by_cases e : k = i
    · rw [if_pos e, if_pos hkl] at hy
      cases hy
      exact hoth (by decide) hn
    · rw [if_neg e] at hy
      exact hoth (by decide) (h.rs i y (by omega) hy)
  · rw [List.map_set, bare_at, ← h.pb]
    apply List.ext_getElem?
    intro i
    rw [List.getElem?_set]
    split
    · next e => subst e; rw [List.getElem?_map, hx]; simp [hkl]
    · rfl
  · rw [List.getElem?_set, if_neg (by omega)]
    exact h.po i (by omega)
end
end Go.Proofs.Ytiihdbchchnncaa
end
section
namespace Go.Proofs.Ytiihdbchchnncaa
open Go Go.RowKit

/-- A copy of a grammar: the same, wherever it lies. -/
structure CopyOf (g m : GramM) : Prop where
  sorts : m.sorts = g.sorts
  start : m.start = g.start
  prods : m.prods.map bareP = g.prods.map bareP
  forbid : m.forbid = g.forbid
  follow : m.follow = g.follow

theorem CS.first (g : GramM) (w : World) : CS g w false false false false (.slice g.sa g.sorts.length g.sc) (.slice g.pa g.prods.length g.pc) (.slice g.fa g.forbid.length g.fc) (.slice g.wa g.follow.length g.wc) g.prods 0
    (((w.alloc (.cells (gramC g) 27)).alloc (.cells #[.slice none 0 0, .slice none 0 0, .int .i64 0, .slice none 0 0, .slice none 0 0] 27)).alloc (.cells (gramC g) 27)) := by
  have h1 : Blk ((w.alloc (.cells (gramC g) 27)).alloc (.cells #[.slice none 0 0, .slice none 0 0, .int .i64 0, .slice none 0 0, .slice none 0 0] 27)) (w.heap.size + 1) 27 #[.slice none 0 0, .slice none 0 0, .int .i64 0, .slice none 0 0, .slice none 0 0] := by
    have h := Blk.new (w.alloc (.cells (gramC g) 27)) 27 #[.slice none 0 0, .slice none 0 0, .int .i64 0, .slice none 0 0, .slice none 0 0]
    rw [World.size_alloc] at h
    exact h
  have h2 := Blk.new ((w.alloc (.cells (gramC g) 27)).alloc (.cells #[.slice none 0 0, .slice none 0 0, .int .i64 0, .slice none 0 0, .slice none 0 0] 27)) 27 (gramC g)
  rw [World.size_alloc, World.size_alloc] at h2
  exact ⟨((Blk.new w 27 (gramC g)).alloc _).alloc _, h1.alloc _, h2, (((Below.refl _ w).alloc (Nat.le_refl _) _).alloc (by simp) _).alloc (by simp; omega) _, by simp, rfl, rfl, rfl, rfl, fun i x hi => by omega, rfl, fun _ _ => rfl⟩

theorem row_cell {w : World} {base cap q k m : Nat} {P : List ProdM} {x : ProdM} (h : w.ownsRow base 46 7 (.slice (some ⟨q, 0, none⟩) m cap) m (cellsL prodC P)) (hx : P[k]? = some x) (hk : k < m) : w.cell? ⟨q, k * 7 + 1, none⟩ = some (.slice x.ra x.right.length x.rc) := by
  have h1 := h.cellAt (k * 7 + 1) (show k * 7 + 1 < m * 7 by omega)
  rw [cellsL_at (cs := prodC) (fun _ => rfl) P k x hx 1 (by omega)] at h1
  rw [h1]; rfl

theorem CS.fin {g : GramM} {w : World} {sa pa fa wa : Option Addr} {sc pc fc wc : Nat} {P : List ProdM} {wr W : World}
    (h : CS g w true true true true (.slice sa g.sorts.length sc) (.slice pa g.prods.length pc) (.slice fa g.forbid.length fc) (.slice wa g.follow.length wc) P g.prods.length wr)
    (hW : W = ((((wr.setCell ⟨w.heap.size + 1, 0, none⟩ (.slice sa g.sorts.length sc)).setCell ⟨w.heap.size + 1, 1, none⟩ (.slice pa g.prods.length pc)).setCell ⟨w.heap.size + 1, 2, none⟩ (.int .i64 g.start)).setCell ⟨w.heap.size + 1, 3, none⟩ (.slice fa g.forbid.length fc)).setCell ⟨w.heap.size + 1, 4, none⟩ (.slice wa g.follow.length wc)) :
    Blk W (w.heap.size + 1) 27 #[.slice sa g.sorts.length sc, .slice pa g.prods.length pc, .int .i64 g.start, .slice fa g.forbid.length fc, .slice wa g.follow.length wc] ∧ Below w.heap.size w W ∧ P.length = g.prods.length ∧ GIn W ⟨sa, sc, g.sorts, pa, pc, P, g.start, fa, fc, g.forbid, wa, wc, g.follow⟩ ∧ NilOK ⟨sa, sc, g.sorts, pa, pc, P, g.start, fa, fc, g.forbid, wa, wc, g.follow⟩ := by
  have hN : w.heap.size + 1 < w.heap.size + 3 := by omega
  have put : ∀ {e size n : Nat} {v : Value} {xs : List Value}, wr.ownsRow (w.heap.size + 3) e size v n xs → W.ownsRow (w.heap.size + 3) e size v n xs := fun h => by
    rw [hW]
    exact own_put (own_put (own_put (own_put (own_put h hN _) hN _) hN _) hN _) hN _
  have hb := ((((h.br.set 0 (.slice sa g.sorts.length sc)).set 1 (.slice pa g.prods.length pc)).set 2 (.int .i64 g.start)).set 3 (.slice fa g.forbid.length fc)).set 4 (.slice wa g.follow.length wc)
  have hlen : P.length = g.prods.length := by
    have := congrArg List.length h.pb
    rwa [List.length_map, List.length_map] at this
  have hnil : ∀ {α : Type} {cs : α → Array Value} {k e : Nat} {a : Option Addr} {c : Nat} {l : List α} (_ : ∀ x, (cs x).size = k), W.ownsRow (w.heap.size + 3) e k (.slice a l.length c) l.length (cellsL cs l) → a = none → c = 0 := fun hk h => (own_rowS (G := NoG) hk h (fun _ _ => trivial)).2
  have r0 : W.ownsRow (w.heap.size + 3) 9 1 (.slice sa g.sorts.length sc) g.sorts.length (cellsL strC g.sorts) := put h.r0
  have r1 : W.ownsRow (w.heap.size + 3) 46 7 (.slice pa P.length pc) P.length (cellsL prodC P) := by rw [hlen]; exact put h.r1
  have r3 : W.ownsRow (w.heap.size + 3) 78 3 (.slice fa g.forbid.length fc) g.forbid.length (cellsL forC g.forbid) := put h.r3
  have r4 : W.ownsRow (w.heap.size + 3) 80 5 (.slice wa g.follow.length wc) g.follow.length (cellsL folC g.follow) := put h.r4
  have rs : ∀ x, x ∈ P → W.ownsRow (w.heap.size + 3) 68 6 (.slice x.ra x.right.length x.rc) x.right.length (cellsL symC x.right) := fun x hx => by
    obtain ⟨i, hi⟩ := List.mem_iff_getElem?.1 hx
    exact put (h.rs i x (by have := (List.getElem?_eq_some_iff.1 hi).1; omega) hi)
  refine ⟨?_, ?_, hlen, ⟨(own_rowS (cs := strC) (G := NoG) (fun _ => rfl) r0 (fun _ _ => trivial)).1, (own_rowS (cs := prodC) (G := ProdIn) (fun _ => rfl) r1 (fun x hx => (own_rowS (cs := symC) (fun _ => rfl) (rs x hx) (fun _ _ => trivial)).1)).1,
      (own_rowS (cs := forC) (G := NoG) (fun _ => rfl) r3 (fun _ _ => trivial)).1, (own_rowS (cs := folC) (G := NoG) (fun _ => rfl) r4 (fun _ _ => trivial)).1⟩,
    ⟨hnil (cs := strC) (fun _ => rfl) r0, hnil (cs := prodC) (fun _ => rfl) r1, hnil (cs := forC) (fun _ => rfl) r3, hnil (cs := folC) (fun _ => rfl) r4, fun x hx => hnil (cs := symC) (fun _ => rfl) (rs x hx)⟩⟩
  · rw [hW]; simpa using hb
  · rw [hW]
    have hle : w.heap.size ≤ w.heap.size + 1 := by omega
    exact ((((h.b.setCell (p := ⟨w.heap.size + 1, 0, none⟩) hle _).setCell (p := ⟨w.heap.size + 1, 1, none⟩) hle _).setCell (p := ⟨w.heap.size + 1, 2, none⟩) hle _).setCell (p := ⟨w.heap.size + 1, 3, none⟩) hle _).setCell (p := ⟨w.heap.size + 1, 4, none⟩) hle _

set_option maxRecDepth 100000 in
set_option maxHeartbeats 8000000 in
theorem copied_any (g : GramM) (w : World) (hg : GIn w g) (hn : NilOK g) (hf : Fit g) :
    Calls Try.prog 11 #[gramV g] w fun e w' => ∃ m, e = .returned (gramV m) ∧ CopyOf g m ∧ GIn w' m ∧ NilOK m ∧ Below w.heap.size w w' := by
  obtain ⟨i9, ti9, tz9, ts9, tb9⟩ := info_parts Try.info9
  obtain ⟨i46, ti46, tz46, ts46, tb46⟩ := info_parts Try.info46
  obtain ⟨i68, ti68, tz68, ts68, tb68⟩ := info_parts Try.info68
  obtain ⟨i78, ti78, tz78, ts78, tb78⟩ := info_parts Try.info78
  obtain ⟨i80, ti80, tz80, ts80, tb80⟩ := info_parts Try.info80
  have HC0 := Lib.hid (CS.first g w)
  have hlow : Below w.heap.size w (((w.alloc (.cells (gramC g) 27)).alloc (.cells #[.slice none 0 0, .slice none 0 0, .int .i64 0, .slice none 0 0, .slice none 0 0] 27)).alloc (.cells (gramC g) 27)) := HC0.out.b
  have HG := Lib.hid hg
  have HR0 := Lib.hid (hg.sorts.belowN hlow)
  have HN := Lib.hid hn
  obtain ⟨f1, f2, f3, f4, f5, _, _⟩ := hf
  have F3 := Lib.hid f3
  clear hlow hg hn f3
  unfold gramV gramC at *
  go_enter Try.func11, Try.ntmps11
  have HC := HC0
  clear HC0
  go_upto_region 3 with (at_builtin; refine wpList_append_row rfl (.const (.slice none 0 0)) (.tmp 7) 22 rfl (w.heap.size + 3) 9 i9 _ 1 16 Try.underlying22 ti9 tz9 ts9 tb9 rfl (by decide) (.slice none 0 0) 0 [] rfl (World.ownsRow_nil _ _ _ _) g.sa g.sc g.sorts rfl (HR0.out) (fun _ => rfl) str_one HN.out.s (by unfold maxLen; omega) (by omega) (by simp) ?_; intro v1 w1 hown1 hgrow1; simp only [Nat.zero_add, List.nil_append] at hown1; obtain ⟨ra0, rc0, rfl, _, _⟩ := own_slice hown1; have hcb := HC.out.below (grown_below hgrow1); obtain ⟨d0, d1, d2, d3, d4⟩ := cells5' hcb.bo; have f0 : w1.frozen? ⟨w.heap.size + 1 + 1, 0, none⟩ = false := hcb.bo.frozen 0; have l0 : w.heap.size + 1 + 1 < w1.heap.size := hcb.bo.lt; obtain ⟨e0, e1, e2, e3, e4⟩ := cells5' hcb.bg; have l1 := hcb.bg.lt; have HCN := Lib.hid (hcb.put0 _ hown1); clear hcb hown1 hgrow1)
  obtain ⟨Wa, hW⟩ : ∃ W, W = w1.setCell ⟨w.heap.size + 1 + 1, 0, none⟩ (.slice ra0 g.sorts.length rc0) := ⟨_, rfl⟩
  rw [← hW]
  have HCM : Hid (CS g w true false false false (.slice ra0 g.sorts.length rc0) (.slice g.pa g.prods.length g.pc) (.slice g.fa g.forbid.length g.fc) (.slice g.wa g.follow.length g.wc) g.prods 0 Wa) := Lib.hid (by rw [hW]; exact HCN.out)
  clear HC HCN hW d0 d1 d2 d3 d4 f0 l0 e0 e1 e2 e3 e4 l1
  have HC := HCM
  clear HCM
  obtain ⟨c0, c1, c2, c3, c4⟩ := cells5' HC.out.bg
  obtain ⟨d0, d1, d2, d3, d4⟩ := cells5' HC.out.bo
  have l0 := HC.out.bo.lt
  have l1 := HC.out.bg.lt
  clear HR0
  go_upto_region 4 with (at_builtin; refine wpList_append_row rfl (.const (.slice none 0 0)) (.tmp 11) 23 rfl (w.heap.size + 3) 46 i46 _ 7 72 Try.underlying23 ti46 tz46 ts46 tb46 rfl (by decide) (.slice none 0 0) 0 [] rfl (World.ownsRow_nil _ _ _ _) g.pa g.pc g.prods rfl (HG.out.prods.below HC.out.b) (fun _ => rfl) prod_one HN.out.p (by unfold maxLen; omega) (by omega) (by exact HC.out.lt) ?_; intro v1 w1 hown1 hgrow1; simp only [Nat.zero_add, List.nil_append] at hown1; obtain ⟨ra1, rc1, rfl, _, _⟩ := own_slice hown1; have hcb := HC.out.below (grown_below hgrow1); clear d0 d1 d2 d3 d4 c0 c1 c2 c3 c4 l0 l1; obtain ⟨d0, d1, d2, d3, d4⟩ := cells5' hcb.bo; have f0 : w1.frozen? ⟨w.heap.size + 1 + 1, 1, none⟩ = false := hcb.bo.frozen 1; have l0 : w.heap.size + 1 + 1 < w1.heap.size := hcb.bo.lt; obtain ⟨e0, e1, e2, e3, e4⟩ := cells5' hcb.bg; have l1 := hcb.bg.lt; have HCN := Lib.hid (hcb.put1 _ hown1); clear hcb hown1 hgrow1)
  obtain ⟨Wb, hW⟩ : ∃ W, W = w1.setCell ⟨w.heap.size + 1 + 1, 1, none⟩ (.slice ra1 g.prods.length rc1) := ⟨_, rfl⟩
  rw [← hW]
  have HCM : Hid (CS g w true true false false (.slice ra0 g.sorts.length rc0) (.slice ra1 g.prods.length rc1) (.slice g.fa g.forbid.length g.fc) (.slice g.wa g.follow.length g.wc) g.prods 0 Wb) := Lib.hid (by rw [hW]; exact HCN.out)
  clear HC HCN hW d0 d1 d2 d3 d4 f0 l0 e0 e1 e2 e3 e4 l1
  have HC := HCM
  clear HCM
  obtain ⟨c0, c1, c2, c3, c4⟩ := cells5' HC.out.bg
  obtain ⟨d0, d1, d2, d3, d4⟩ := cells5' HC.out.bo
  have l0 := HC.out.bo.lt
  have l1 := HC.out.bg.lt
  have HRA : Hid (∀ k, k < g.prods.length → ∃ q, ra1 = some ⟨q, 0, none⟩) := Lib.hid (by
    have h : Wb.ownsRow _ _ _ _ _ _ := HC.out.r1
    obtain ⟨a', c', e, h2, _⟩ := own_slice h
    simp only [Value.slice.injEq] at e
    intro k hk
    obtain ⟨q, hq, _⟩ := h2 k hk
    exact ⟨q, e.1.trans hq⟩)
  clear c0 c1 c2 c3 c4 d0 d1 d2 d3 d4 l0 l1
  go_wp2
  go_loopw [4] (fun i wr => ∃ k : Nat, i = .int .i64 k ∧ k ≤ g.prods.length ∧ ∃ P, Hid (CS g w true true false false (.slice ra0 g.sorts.length rc0) (.slice ra1 g.prods.length rc1) (.slice g.fa g.forbid.length g.fc) (.slice g.wa g.follow.length g.wc) P k wr)) (fun i _ => g.prods.length - (intOf i).toNat)
  case atStart => exact ⟨0, rfl, Nat.zero_le _, _, HC⟩
  case round =>
    clear HC
    obtain ⟨k, rfl, hk, P, HC⟩ := hrel
    obtain ⟨c0, c1, c2, c3, c4⟩ := cells5' HC.out.bg
    obtain ⟨d0, d1, d2, d3, d4⟩ := cells5' HC.out.bo
    have l0 := HC.out.bo.lt
    have l1 := HC.out.bg.lt
    by_cases hlt : k < g.prods.length
    · obtain ⟨x, hx⟩ : ∃ x, g.prods[k]? = some x := ⟨_, List.getElem?_eq_getElem hlt⟩
      have hP : P[k]? = some x := (HC.out.po k (Nat.le_refl _)).trans hx
      obtain ⟨b1, o1, e1, hb1, hc1, hi1⟩ := HG.out.prods k x hx
      obtain ⟨_, x1, _, _, _, _, _⟩ := Prod_at (hc1.below HC.out.b hb1)
      have hb1' := Nat.lt_of_lt_of_le hb1 HC.out.b.size
      obtain ⟨q, hq⟩ := HRA.out k hlt
      have hxl := F3.out x (List.mem_of_getElem? hx)
      have HXN := Lib.hid (HN.out.r x (List.mem_of_getElem? hx))
      have HRX := Lib.hid (fun W (hW : Below w.heap.size w W) => RowOf.belowN hi1 hW)
      have HPX := Lib.hid hP
      rw [hq] at d1 HC
      rw [e1] at c1
      have HQ1 := Lib.hid hq
      have z1 : (k : Int) < (g.prods.length : Int) := by omega
      have z0 : (0 : Int) ≤ (k : Int) := by omega
      clear hx hP hc1 hi1 e1 hq
      go_wp2
      go_region_law (first
        | ((refine step_append_row _ (by rfl) (.const (.slice none 0 0)) (.tmp 29) 43 (by rfl) (w.heap.size + 3) 68 i68 (.agg #[.int .i64 0, .int .u64 0, .int .u64 0, .int .u64 0, .int .u64 0, .int .i64 0]) 6 48 Try.underlying43 ti68 tz68 ts68 tb68 (by rfl) (by decide) (.slice none 0 0) 0 [] (by rfl) (World.ownsRow_nil _ _ _ _) x.ra x.rc x.right (by rfl) (HRX.out _ HC.out.b.drew) (fun _ => rfl) sym_one HXN.out (by unfold maxLen; omega) (by omega) (by exact HC.out.lt) ?_; intro v5 w5 hown5 hgrow5; simp only [Nat.zero_add, List.nil_append] at hown5; obtain ⟨ra5, rc5, rfl, _, _⟩ := own_slice hown5; have hb5 := grown_below hgrow5; have hcb := HC.out.below (⟨hb5.os, hb5.tape, hb5.output, hb5.size, hb5.block⟩ : Below wr.heap.size wr w5); obtain ⟨_, g1, _, _, _⟩ := cells5' hcb.bg; obtain ⟨_, h1, _, _, _⟩ := cells5' hcb.bo; have l5 := hcb.bg.lt; have m5 : w.heap.size + 1 + 1 < w5.heap.size := hcb.bo.lt; have hr5 : w5.ownsRow _ _ _ _ _ _ := hcb.r1; have fr := hr5.frozenAt (k * 7 + 1); have cr := row_cell hr5 HPX.out hlt; have lq := lt_of_cell cr; have HNX := Lib.hid (hcb.putR rfl HPX.out ra5 rc5 hown5); clear hcb hown5 hgrow5 hb5 hr5)))
      all_goals
        go_wp2
        go_roundw
        case rel => exact ⟨k + 1, by go_num, by omega, _, Lib.hid (by rw [HQ1.out]; exact HNX.out)⟩
        case measure => simp [intOf]; omega
    · obtain ⟨wo, rfl⟩ : ∃ wo : World, wo = wr := ⟨_, rfl⟩
      obtain rfl : k = g.prods.length := by omega
      go_upto_region 9 with (at_builtin; refine wpList_append_row rfl (.const (.slice none 0 0)) (.tmp 34) 24 rfl (w.heap.size + 3) 78 i78 _ 3 24 Try.underlying24 ti78 tz78 ts78 tb78 rfl (by decide) (.slice none 0 0) 0 [] rfl (World.ownsRow_nil _ _ _ _) g.fa g.fc g.forbid rfl (RowOf.belowN HG.out.forbid HC.out.b) (fun _ => rfl) for_one HN.out.f (by unfold maxLen; omega) (by omega) (by exact HC.out.lt) ?_; intro v1 w1 hown1 hgrow1; simp only [Nat.zero_add, List.nil_append] at hown1; obtain ⟨ra3, rc3, rfl, _, _⟩ := own_slice hown1; have hcb := HC.out.below (grown_below hgrow1); clear d0 d1 d2 d3 d4 c0 c1 c2 c3 c4 l0 l1; obtain ⟨d0, d1, d2, d3, d4⟩ := cells5' hcb.bo; have f0 : w1.frozen? ⟨w.heap.size + 1 + 1, 3, none⟩ = false := hcb.bo.frozen 3; have l0 : w.heap.size + 1 + 1 < w1.heap.size := hcb.bo.lt; obtain ⟨e0, e1, e2, e3, e4⟩ := cells5' hcb.bg; have l1 := hcb.bg.lt; have HCN := Lib.hid (hcb.put3 _ hown1); clear hcb hown1 hgrow1)
      obtain ⟨Wc, hW⟩ : ∃ W, W = w1.setCell ⟨w.heap.size + 1 + 1, 3, none⟩ (.slice ra3 g.forbid.length rc3) := ⟨_, rfl⟩
      rw [← hW]
      have HCM : Hid (CS g w true true true false (.slice ra0 g.sorts.length rc0) (.slice ra1 g.prods.length rc1) (.slice ra3 g.forbid.length rc3) (.slice g.wa g.follow.length g.wc) P g.prods.length Wc) := Lib.hid (by rw [hW]; exact HCN.out)
      clear HC HCN hW d0 d1 d2 d3 d4 f0 l0 e0 e1 e2 e3 e4 l1
      have HC := HCM
      clear HCM
      obtain ⟨c0, c1, c2, c3, c4⟩ := cells5' HC.out.bg
      obtain ⟨d0, d1, d2, d3, d4⟩ := cells5' HC.out.bo
      have l0 := HC.out.bo.lt
      have l1 := HC.out.bg.lt
      go_upto_region 10 with (at_builtin; refine wpList_append_row rfl (.const (.slice none 0 0)) (.tmp 38) 25 rfl (w.heap.size + 3) 80 i80 _ 5 40 Try.underlying25 ti80 tz80 ts80 tb80 rfl (by decide) (.slice none 0 0) 0 [] rfl (World.ownsRow_nil _ _ _ _) g.wa g.wc g.follow rfl (RowOf.belowN HG.out.follow HC.out.b) (fun _ => rfl) fol_one HN.out.w (by unfold maxLen; omega) (by omega) (by exact HC.out.lt) ?_; intro v1 w1 hown1 hgrow1; simp only [Nat.zero_add, List.nil_append] at hown1; obtain ⟨ra4, rc4, rfl, _, _⟩ := own_slice hown1; have hcb := HC.out.below (grown_below hgrow1); clear d0 d1 d2 d3 d4 c0 c1 c2 c3 c4 l0 l1; obtain ⟨d0, d1, d2, d3, d4⟩ := cells5' hcb.bo; have f0 : w1.frozen? ⟨w.heap.size + 1 + 1, 4, none⟩ = false := hcb.bo.frozen 4; have l0 : w.heap.size + 1 + 1 < w1.heap.size := hcb.bo.lt; obtain ⟨e0, e1, e2, e3, e4⟩ := cells5' hcb.bg; have l1 := hcb.bg.lt; have HCN := Lib.hid (hcb.put4 _ hown1); clear hcb hown1 hgrow1)
      obtain ⟨Wd, hW⟩ : ∃ W, W = w1.setCell ⟨w.heap.size + 1 + 1, 4, none⟩ (.slice ra4 g.follow.length rc4) := ⟨_, rfl⟩
      rw [← hW]
      have HCM : Hid (CS g w true true true true (.slice ra0 g.sorts.length rc0) (.slice ra1 g.prods.length rc1) (.slice ra3 g.forbid.length rc3) (.slice ra4 g.follow.length rc4) P g.prods.length Wd) := Lib.hid (by rw [hW]; exact HCN.out)
      clear HC HCN hW d0 d1 d2 d3 d4 f0 l0 e0 e1 e2 e3 e4 l1
      have HC := HCM
      clear HCM
      obtain ⟨c0, c1, c2, c3, c4⟩ := cells5' HC.out.bg
      obtain ⟨d0, d1, d2, d3, d4⟩ := cells5' HC.out.bo
      have l0 := HC.out.bo.lt
      have l1 := HC.out.bg.lt
      obtain ⟨b0, b1, b2, b3, b4⟩ := cells5' HC.out.br
      have f0 : Wd.frozen? ⟨w.heap.size + 1, 0, none⟩ = false := HC.out.br.frozen 0
      have f1 : Wd.frozen? ⟨w.heap.size + 1, 1, none⟩ = false := HC.out.br.frozen 1
      have f2 : Wd.frozen? ⟨w.heap.size + 1, 2, none⟩ = false := HC.out.br.frozen 2
      have f3 : Wd.frozen? ⟨w.heap.size + 1, 3, none⟩ = false := HC.out.br.frozen 3
      have f4 : Wd.frozen? ⟨w.heap.size + 1, 4, none⟩ = false := HC.out.br.frozen 4
      have l2 := HC.out.br.lt
      clear HRA HN HG F3
      go_wp2
      obtain ⟨WF, hWF⟩ : ∃ W, W = ((((Wd.setCell ⟨w.heap.size + 1, 0, none⟩ (.slice ra0 g.sorts.length rc0)).setCell ⟨w.heap.size + 1, 1, none⟩ (.slice ra1 g.prods.length rc1)).setCell ⟨w.heap.size + 1, 2, none⟩ (.int .i64 g.start)).setCell ⟨w.heap.size + 1, 3, none⟩ (.slice ra3 g.forbid.length rc3)).setCell ⟨w.heap.size + 1, 4, none⟩ (.slice ra4 g.follow.length rc4) := ⟨_, rfl⟩
      rw [← hWF]
      obtain ⟨hbF, hBF, hlF, hGF, hNF⟩ := HC.out.fin hWF
      obtain ⟨q0, q1, q2, q3, q4⟩ := cells5' hbF
      have hpF := HC.out.pb
      refine bodyPost_ret (v := .agg #[.slice ra0 g.sorts.length rc0, .slice ra1 g.prods.length rc1, .int .i64 g.start, .slice ra3 g.forbid.length rc3, .slice ra4 g.follow.length rc4]) (by simp [results, Try.results11, go_sem, q0, q1, q2, q3, q4]) rfl
        ⟨⟨ra0, rc0, g.sorts, ra1, rc1, P, g.start, ra3, rc3, g.forbid, ra4, rc4, g.follow⟩, (by dsimp only; rw [hlF]), ⟨rfl, rfl, hpF, rfl, rfl⟩, hGF, hNF, hBF⟩
end Go.Proofs.Ytiihdbchchnncaa
end
section
namespace Go.Vals
open Go

section
variable {P : Program} {ops : Array Oper} {N : World → World → Prop} {F : Array Value} {loose : List Tmp} {p : Tmp → Value → World → Prop} {S : World → Prop} {ds : List Deferred} {o : Oper} {l : List Oper}

/-- A call that hands back something of which only p is known. -/
theorem Each.callMakes (d : Tmp) (f : FuncId) (args : Array Value) (hs : noSel o = true) (hl : (o.looksAt ops).all (fun t => !loose.contains t) = true) (hd : o.dst = some d) (hm : loose.contains d = true) (hw : Region.wanted o (yielded ops F) = true)
    (he : ∀ w ds, (execOp (Act.eval ⟨F, ds⟩) o).run P w = .ok (.enter f args) w) (hc : ∀ w, S w → Calls P f args w fun e w' => ∃ v, e = .returned v ∧ N w w' ∧ p d v w')
    (hr : Each P ops N (Kn F loose p) S ds l) : Each P ops N (Kn F loose p) S ds (o :: l) :=
  ⟨fun a w _ hS hk => does_at (noSel_spec hs) hl hk (.inr ⟨hw, by
    have := he w a.defers
    show Gives P N _ o w ((execOp (Act.eval ⟨F, a.defers⟩) o).run P w)
    rw [this]
    exact (hc w hS).mono fun e w' ⟨v, h1, h2, h3⟩ => ⟨v, h1, h2, fun d' hd' => by rw [hd] at hd'; cases hd'; exact .inl ⟨by simpa using hm, h3⟩⟩⟩), hr⟩

/-- A call with two arguments, of the second of which only p is known. -/
theorem Each.callLoose2 (d t0 t : Tmp) (x0 v : Value) (f : FuncId) (hd : o.dst = some d) (hm : loose.contains d = false) (hl : (o.looksAt ops).contains t = true) (hl0 : ((o.looksAt ops).filter fun u => !loose.contains u).contains t0 = true) (hlo : loose.contains t = true)
    (hx0 : F[t0]? = some x0) (hw : Region.wanted o (yielded ops F) = true) (hg : guardIn ops o ((o.looksAt ops).filter fun u => !loose.contains u) = true) (hv : F[d]? = some v)
    (he : ∀ w a, (execOp (Act.eval a) o).run P w = .ok (.enter f #[a.eval (.tmp t0), a.eval (.tmp t)]) w) (hc : ∀ w x, S w → p t x w → Calls P f #[x0, x] w fun e w' => e = .returned v ∧ N w w')
    (hr : Each P ops N (Kn F loose p) S ds l) : Each P ops N (Kn F loose p) S ds (o :: l) := by
  have known : ∀ (a : Act) (w : World), Knows (Kn F loose p) (o.looksAt ops) a w → ∀ u ∈ (o.looksAt ops).filter (fun u => !loose.contains u), a.tmps[u]? = F[u]? := fun a w hk u hu => by
    obtain ⟨h1, h2⟩ := List.mem_filter.1 hu
    obtain ⟨x, hx, hK⟩ := hk u h1
    rcases hK with ⟨hm, _⟩ | ⟨_, hK⟩
    · simp [hm] at h2
    · rw [hx, hK]
  refine ⟨fun a w _ hS hk => .inr ⟨(wanted_same hg fun u hu => known a w hk u hu).trans hw, ?_⟩, hr⟩
  have h0 := known a w hk t0 (by simpa using hl0)
  obtain ⟨x, hx, hK⟩ := hk t (by simpa using hl)
  have hp : p t x w := by
    rcases hK with ⟨_, h⟩ | ⟨h, _⟩
    · exact h
    · exact absurd (by simpa using hlo) h
  rw [he, show a.eval (.tmp t) = x by simp [Act.eval, hx], show a.eval (.tmp t0) = x0 by simp [Act.eval, h0, hx0]]
  exact (hc w x hS hp).mono fun e w' hh => ⟨v, hh.1, hh.2, puts_at hd hm hv⟩

theorem putL_on : ∀ (l : List Tmp) (F T : Array Value), T.size = F.size → (∀ t, t < F.size → t ∉ l → T[t]? = F[t]?) → T = putL F (l.map some) (l.map fun t => T.getD t undef) := by
  intro l
  induction l with
  | nil =>
    intro F T hs h
    simp only [List.map_nil, putL]
    apply Array.ext hs
    intro i h1 h2
    have := h i h2 (by simp)
    simpa [h1, h2] using this
  | cons u l ih =>
    intro F T hs h
    simp only [List.map_cons, putL]
    refine ih _ T (by simpa using hs) fun t ht hn => ?_
    by_cases e : t = u
    · subst e
      have hlt : t < F.size := by simpa using ht
      rw [Array.getElem?_setIfInBounds_self_of_lt hlt]
      simp [Array.getD, hs, hlt]
    · rw [Array.getElem?_setIfInBounds_ne (fun h => e h.symm)]
      exact h t (by simpa using ht) (by simp [e, hn])
theorem loose_eq {F T : Array Value} {l : List Tmp} {p : Tmp → Value → World → Prop} {w : World} (hT : T.size = F.size) (hk : ∀ t < F.size, ∃ v, T[t]? = some v ∧ Kn F l p t v w) : T = putL F (l.map some) (l.map fun t => T.getD t undef) := by
  refine putL_on l F T hT fun t ht hn => ?_
  obtain ⟨v, hv, hK⟩ := hk t ht
  rcases hK with ⟨hm, _⟩ | ⟨_, hK⟩
  · exact absurd hm hn
  · rw [hv, hK]
end
end Go.Vals
end
section
namespace Go.Proofs.Ytiihdbchchnncaa
open Go Go.RowKit

/-- The bytes that a tree was made of. -/
def yieldL : Nat → TreeM → List Int
  | 0, _ => []
  | d + 1, .node p b _ _ kids => if p < 0 then [b] else kids.flatMap (yieldL d)
def byteC (b : Int) : Array Value := #[.int .u8 b]
theorem Try.info5 : (Try.prog.info? 5).map (fun i => (i.zero, i.size, i.bytes)) = some (some (.int .u8 0), 1, 1) := by kernel_rfl

set_option maxRecDepth 100000 in
set_option maxHeartbeats 2000000 in
theorem appendYield_any (w0 : World) (d : Nat) : ∀ (t : TreeM) (w : World) (v : Value) (L : List Int), TreeIn w0 t → TFit d t → nestB d t = true → Below w0.heap.size w0 w → w.ownsRow w0.heap.size 5 1 v L.length (cellsL byteC L) → L.length + (yieldL d t).length ≤ 1099511627776 →
    Calls Try.prog 49 #[v, treeV t] w fun e w' => ∃ v', e = .returned v' ∧ w'.ownsRow w0.heap.size 5 1 v' (L ++ yieldL d t).length (cellsL byteC (L ++ yieldL d t)) ∧ Below w0.heap.size w0 w' := by
  obtain ⟨i5, hi, hz0, hz1, hz2⟩ := info_parts Try.info5
  induction d with
  | zero => intro t w v L _ _ h; unfold nestB at h; cases h
  | succ d ih =>
  intro t w v L ht hfit hnest hB hown hlen
  obtain ⟨p, b, ka, kc, kids⟩ := t
  rw [tree_in] at ht
  obtain ⟨hkl, ⟨n, rfl, hn⟩, hkf⟩ := hfit
  have HNe := Lib.hid (List.all_eq_true.1 (show kids.all (nestB d) = true from hnest))
  have HKf := Lib.hid hkf
  have HIh := Lib.hid ih
  have HTr := Lib.hid ht
  have hb1 := Blk.new w 51 #[.int .i64 p, .int .u8 (n : Nat), .slice ka kids.length kc]
  have hBw : Below w.heap.size w (w.alloc (.cells #[.int .i64 p, .int .u8 (n : Nat), .slice ka kids.length kc] 51)) := (Below.refl _ _).alloc (Nat.le_refl _) _
  have hs0 := hB.size
  have hB1 := hB.trans (hBw.mono hs0)
  have hown1 := own_below hown hBw (Nat.le_refl _)
  by_cases hp : p < 0
  · have HY : Hid (yieldL (d + 1) (.node p (n : Int) ka kc kids) = [(n : Int)]) := Lib.hid (by rw [yieldL, if_pos hp])
    rw [HY.out] at hlen ⊢
    simp only [List.length_singleton] at hlen
    have hB2 : Below w.heap.size w ((w.alloc (.cells #[.int .i64 p, .int .u8 (n : Nat), .slice ka kids.length kc] 51)).alloc (.cells #[.int .u8 (n : Nat)] 5)) := hBw.alloc (by simp) _
    have hown2 := own_below hown hB2 (Nat.le_refl _)
    have HO2 := Lib.hid hown2
    have HB2 := Lib.hid (hB.trans (hB2.mono hs0))
    have HCN := cells_new (w.alloc (.cells #[.int .i64 p, .int .u8 (n : Nat), .slice ka kids.length kc] 51)) #[.int .u8 (n : Nat)] 5
    rw [World.size_alloc] at HCN
    have HCN := Lib.hid HCN
    clear ht hkf hnest ih hb1 hBw hB1 hown hown1 hown2 hB2 hB HNe HKf HIh HTr
    unfold treeV treeC
    go_enter Try.func49, Try.ntmps49
    go_wp2_with (at_builtin; refine wpList_append_own _ rfl (.tmp 10) (.tmp 13) 98 rfl w0.heap.size 5 i5 _ 1 1 Try.underlying98 hi hz0 hz1 hz2 rfl (by decide) _ _ _ rfl HO2.out ⟨w.heap.size + 1, 0, none⟩ 1 1 [.int .u8 (n : Nat)] rfl rfl HCN.out (by simp [Value.oneCell']) (by unfold maxLen; omega) (by omega) (by simp; omega) ?_; intro v5 w5 hown5 hgrow5 _)
    have hf5 := own_fin HO2.out HB2.out (Nat.le_refl _) hgrow5
    go_ret
    exact ⟨v5, rfl, by rw [cellsL_snoc]; exact hown5, hf5⟩
  · have HY : Hid (yieldL (d + 1) (.node p (n : Int) ka kc kids) = kids.flatMap (yieldL d)) := Lib.hid (by rw [yieldL, if_neg hp])
    rw [HY.out] at hlen ⊢
    have HLe := Lib.hid hlen
    obtain ⟨W1, hW1⟩ : ∃ W, W = w.alloc (.cells #[.int .i64 p, .int .u8 (n : Nat), .slice ka kids.length kc] 51) := ⟨_, rfl⟩
    rw [← hW1] at hb1 hB1 hown1
    have a0 := hb1.cell 0
    have a2 := hb1.cell 2
    simp only [List.getElem?_toArray, List.getElem?_cons_zero, List.getElem?_cons_succ] at a0 a2
    have l1 := hb1.lt
    have HB1 := Lib.hid hB1
    have HO1 : Hid (W1.ownsRow w0.heap.size 5 1 v (L ++ (kids.take 0).flatMap (yieldL d)).length (cellsL byteC (L ++ (kids.take 0).flatMap (yieldL d)))) := Lib.hid (by simpa using hown1)
    have HW1 := Lib.hid hW1
    clear ht hkf hnest ih hb1 hBw hB1 hown hown1 hB hlen hW1
    unfold treeV treeC
    go_enter Try.func49, Try.ntmps49
    go_wp2_with fail
    rw [← HW1.out]
    go_wp2
    go_loopw [0, 18] (fun u i wr => ∃ k : Nat, i = .int .i64 k ∧ k ≤ kids.length ∧ Hid (wr.ownsRow w0.heap.size 5 1 u (L ++ (kids.take k).flatMap (yieldL d)).length (cellsL byteC (L ++ (kids.take k).flatMap (yieldL d)))) ∧ Hid (Below w0.heap.size w0 wr))
      (fun _ i _ => kids.length - (intOf i).toNat)
    case atStart => exact ⟨0, rfl, Nat.zero_le _, HO1, HB1⟩
    case round =>
      clear HO1 HB1 a0 a2 l1 HW1
      obtain ⟨k, rfl, hk, hO, hB⟩ := hrel
      by_cases hlt : k < kids.length
      · obtain ⟨kd, hkd⟩ : ∃ y, kids[k]? = some y := ⟨_, List.getElem?_eq_getElem hlt⟩
        have hkm := List.mem_of_getElem? hkd
        have HTk : Hid (L ++ (kids.take (k + 1)).flatMap (yieldL d) = (L ++ (kids.take k).flatMap (yieldL d)) ++ yieldL d kd) := Lib.hid (by rw [take_snoc _ k _ hkd, List.flatMap_append, List.append_assoc]; simp)
        have hle : (L ++ (kids.take k).flatMap (yieldL d)).length + (yieldL d kd).length ≤ 1099511627776 := by
          have h1 := HLe.out
          have h2 : (kids.flatMap (yieldL d)).length = ((kids.take (k + 1)).flatMap (yieldL d)).length + ((kids.drop (k + 1)).flatMap (yieldL d)).length := by
            rw [← List.length_append, ← List.flatMap_append, List.take_append_drop]
          have h3 := congrArg List.length HTk.out
          rw [List.length_append, List.length_append (bs := yieldL d kd)] at h3
          omega
        obtain ⟨kb, ko, rfl, hkb, hkc, hki⟩ := HTr.out k kd hkd
        obtain ⟨W2, hW2⟩ : ∃ W, W = wr.alloc (.cells (treeC kd) 51) := ⟨_, rfl⟩
        have hB2w : Below wr.heap.size wr W2 := by rw [hW2]; exact (Below.refl _ _).alloc (Nat.le_refl _) _
        have HC := Lib.hid (HIh.out kd W2 u0 (L ++ (kids.take k).flatMap (yieldL d)) hki (HKf.out kd hkm) (HNe.out kd hkm) (hB.out.trans (hB2w.mono hB.out.size)) (own_below hO.out hB2w (Nat.le_refl _)) hle)
        have HW2 := Lib.hid hW2
        rw [← HTk.out] at HC
        have hcell := hkc.below hB.out hkb
        have lkb := Nat.lt_of_lt_of_le hkb hB.out.size
        clear hkd hkc hki hO hle hW2 hB2w
        obtain ⟨tp, tb, ta, tc, tk⟩ := kd
        obtain ⟨t0, t1, t2⟩ := Tree_at hcell
        unfold treeV treeC at HC
        unfold treeC at HW2
        have k1 : (k : Int) < (kids.length : Int) := by omega
        clear hcell
        go_wp2_with fail
        rw [← HW2.out]
        with_reducible refine HC.out.mono ?_
        rintro e w5 ⟨v5, rfl, hO5, hB5⟩
        have HO5 := Lib.hid hO5
        have HB5 := Lib.hid hB5
        clear hO5 hB5
        go_wp2
        go_roundw
        case rel => exact ⟨k + 1, by go_num, by omega, HO5, HB5⟩
        case measure => simp [intOf]; omega
      · obtain rfl : k = kids.length := by omega
        have hO2 := hO.out
        rw [List.take_length] at hO2
        go_wp2
        go_ret
        exact ⟨_, rfl, hO2, hB.out⟩
end Go.Proofs.Ytiihdbchchnncaa
end
section
namespace Go.Proofs.Ytiihdbchchnncaa
open Go Go.RowKit

theorem cellsB (L : List Int) : cellsL byteC L = L.map fun b => Value.int .u8 b := by
  unfold cellsL byteC
  induction L with
  | nil => rfl
  | cons x r ih => rw [List.flatMap_cons, ih]; rfl
theorem conv_nil (w : World) : (convert 98 9 (.slice none 0 0)).run Try.prog w = .ok (.string (strOfNums [])) w := by kernel_rfl
theorem conv_any {n₀ : Nat} (v : Value) (w : World) (L : List Int) (ho : w.ownsRow n₀ 5 1 v L.length (cellsL byteC L)) :
    (convert 98 9 v).run Try.prog w = .ok (.string (strOfNums L)) w := by
  have ho' := ho
  rcases ho.2 with ⟨rfl, h0⟩ | ⟨g, cap, cur, rfl, _⟩
  · have : L = [] := List.length_eq_zero_iff.1 h0
    subst this
    exact conv_nil w
  · refine run_convert_bytes_arg w 98 5 Try.underlying98 Try.underlying5 g 0 L.length cap L rfl ?_ 9 Try.underlying9
    intro i hi
    rw [Nat.zero_add, ho'.cellAt i (by omega), cellsB]
    simp [List.getD, hi]

set_option maxRecDepth 100000 in
set_option maxHeartbeats 2000000 in
theorem yield_any (t : TreeM) (w : World) (ht : TreeIn w t) (hfit : TFit 16384 t) (hlen : (yieldL 16384 t).length ≤ 1099511627776) :
    Calls Try.prog 21 #[treeV t] w fun e w' => e = .returned (if nestB 16384 t then .tuple #[.string (strOfNums (yieldL 16384 t)), .int .i64 0] else .tuple #[.string ⟨#[]⟩, .int .i64 3]) ∧ Below w.heap.size w w' := by
  obtain ⟨W1, hW1⟩ : ∃ W, W = w.alloc (.cells (treeC t) 51) := ⟨_, rfl⟩
  have hB1 : Below w.heap.size w W1 := by rw [hW1]; exact (Below.refl _ _).alloc (Nat.le_refl _) _
  have hb := Blk.new w 51 (treeC t)
  rw [← hW1] at hb
  have HB := Lib.hid hB1
  have HN := Lib.hid (nested_any 16384 (by omega) t W1 (TreeIn.below hB1 t ht) hfit)
  rw [show ((16384 : Nat) : Int) = 16384 from rfl] at HN
  have HY := Lib.hid (fun (h : nestB 16384 t = true) W (hW : Below W1.heap.size W1 W) => appendYield_any W 16384 t W (.slice none 0 0) [] (TreeIn.below (hB1.trans (hW.mono hB1.size)) t ht) hfit h (Below.refl _ _) (World.ownsRow_nil _ _ _ _) (by simpa using hlen))
  have HW := Lib.hid hW1
  have Hb := Lib.hid hb
  clear ht hfit hlen hB1 hb hW1
  generalize yieldL 16384 t = Y at *
  cases hq : nestB 16384 t with
  | false =>
    rw [hq] at HN
    clear HY hq
    obtain ⟨p, b, ka, kc, kids⟩ := t
    unfold treeV treeC at *
    go_enter Try.func21, Try.ntmps21
    go_wp2_with fail
    rw [← HW.out]
    with_reducible refine HN.out.mono ?_
    rintro e w3 ⟨rfl, hB3⟩
    have HF := Lib.hid (HB.out.trans (hB3.mono HB.out.size))
    clear hB3
    go_wp2
    go_ret2
    exact ⟨rfl, HF.out⟩
  | true =>
    rw [hq] at HN
    have HY := Lib.hid (HY.out hq)
    clear hq
    obtain ⟨p, b, ka, kc, kids⟩ := t
    unfold treeV treeC at *
    go_enter Try.func21, Try.ntmps21
    go_wp2_with fail
    rw [← HW.out]
    with_reducible refine HN.out.mono ?_
    rintro e w3 ⟨rfl, hB3⟩
    have HB3 := Lib.hid (HB.out.trans (hB3.mono HB.out.size))
    have HY3 := Lib.hid (HY.out w3 hB3)
    have c := (Hb.out.below hB3 Hb.out.lt)
    have c0 := c.cell 0
    have c1 := c.cell 1
    have c2 := c.cell 2
    simp only [List.getElem?_toArray, List.getElem?_cons_zero, List.getElem?_cons_succ] at c0 c1 c2
    have l3 := c.lt
    clear hB3 HY c
    rw [List.nil_append] at HY3
    go_wp2_with fail
    with_reducible refine HY3.out.mono ?_
    rintro e w4 ⟨v, rfl, hO, hB4⟩
    have HCv := conv_any v w4 Y hO
    have HB4 := Lib.hid (HB3.out.trans (hB4.mono HB3.out.size))
    clear hO hB4
    go_wp2
    go_ret2
    exact ⟨rfl, HB4.out⟩
end Go.Proofs.Ytiihdbchchnncaa
end
