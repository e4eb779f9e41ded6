import Derived.Lib.AppendStr
import Derived.Lib.OthersKept
import Derived.Lib.OwnKind
import Derived.OwnWalk
import Derived.Deep.AppendLies
import Derived.Deep.RegionLaw
import Derived.OrdersHeld
import Derived.Deep.RegionHeld3
import Derived.Test.YtegmoeeeomjkgaaDoorZ1
import Derived.Test.YtegmoeeeomjkgaaDoorZ2
section
namespace Go.Proofs.YtegmoeeeomjkgaaDoor
open Go Go.RowKit

theorem Tryd.info5 : (Tryd.prog.info? 5).map (fun i => (i.zero, i.size, i.bytes)) = some (some (.int .u8 0), 1, 1) := by kernel_rfl

def byteV (x : Nat) : Value := .int .u8 x
/-- A digit of a byte's escape. -/
def hexC (n : Nat) : Nat := if n < 10 then 48 + n else 87 + n
/-- A byte's text. -/
def byteT (b : Nat) : List Nat :=
  if b = 9 then [92, 116] else if b = 10 then [92, 110] else if b = 13 then [92, 114] else if signB b then [92, b] else if 32 < b ∧ b ≤ 126 then [b] else [92, 120, hexC (b / 16), hexC (b % 16)]

/-- What an append leaves: nothing else has turned. -/
theorem own_fin {w w1 w' : World} {n₀ : Nat} {v : Value} {n : Nat} {xs : List Value} (hown : w1.ownsRow n₀ 5 1 v n xs) (hk : Lib.OthersKept 5 none w w1) (hB : Below n₀ w w1) (hn : n₀ ≤ w.heap.size) (hg : w1.grownBy w' v.ownBlock) :
    Lib.OthersKept 5 none w w' ∧ Below n₀ w w' := by
  refine ⟨hk.grown hg (fun g e => Lib.ownsRow_kind hown g e), hB.grown hg (Nat.le_trans hn hB.size) fun j ej => ?_⟩
  rcases hown.2 with ⟨rfl, _⟩ | ⟨g, cap, cur, rfl, hb, _⟩
  · cases ej
  · obtain rfl : g = j := by simpa [Value.ownBlock] using ej
    exact hb

theorem hex_ix (n : Nat) (h : n < 16) (w : World) : (Instr.index 9 (.string ⟨#[48, 49, 50, 51, 52, 53, 54, 55, 56, 57, 97, 98, 99, 100, 101, 102]⟩) (.int .u8 (n : Int))).run Tryd.prog w = .ok (.int .u8 (hexC n : Nat)) w := by
  rcases (by omega : n = 0 ∨ n = 1 ∨ n = 2 ∨ n = 3 ∨ n = 4 ∨ n = 5 ∨ n = 6 ∨ n = 7 ∨ n = 8 ∨ n = 9 ∨ n = 10 ∨ n = 11 ∨ n = 12 ∨ n = 13 ∨ n = 14 ∨ n = 15) with rfl | rfl | rfl | rfl | rfl | rfl | rfl | rfl | rfl | rfl | rfl | rfl | rfl | rfl | rfl | rfl
  · kernel_rfl
  · kernel_rfl
  · kernel_rfl
  · kernel_rfl
  · kernel_rfl
  · kernel_rfl
  · kernel_rfl
  · kernel_rfl
  · kernel_rfl
  · kernel_rfl
  · kernel_rfl
  · kernel_rfl
  · kernel_rfl
  · kernel_rfl
  · kernel_rfl
  · kernel_rfl

def bytePost (l : List Nat) (n₀ : Nat) (w : World) (e : Ending) (w' : World) : Prop :=
  ∃ v', e = .returned v' ∧ w'.ownsRow n₀ 5 1 v' l.length (l.map byteV) ∧ Lib.OthersKept 5 none w w' ∧ Below n₀ w w'

set_option maxRecDepth 100000 in
set_option maxHeartbeats 4000000 in
theorem appendByte_any (v : Value) (l : List Nat) (b : Nat) (hb : b < 256) (n₀ : Nat) (w : World) (hown : w.ownsRow n₀ 5 1 v l.length (l.map byteV)) (hn : n₀ ≤ w.heap.size) (hl : l.length ≤ 1048576) :
    Calls Tryd.prog 65 #[v, .int .u8 b] w (bytePost (l ++ byteT b) n₀ w) := by
  obtain ⟨i0, hi, hz0, hz1, hz2⟩ := info_parts Tryd.info5
  have HS := fun w' => Lib.hid (isSign_any b hb w')
  have hstr : ∀ (c : Nat) (hc : c < 256), (l ++ [92, c]).length = l.length + 2 ∧ (l ++ [92, c]).map byteV = l.map byteV ++ [.int .u8 92, .int .u8 c] := fun c _ => ⟨by simp, by simp [byteV]⟩
  by_cases c1 : b = 9
  · have hE : byteT b = [92, 116] := by unfold byteT; rw [if_pos c1]
    rw [hE]
    subst c1
    clear hE HS hb
    go_enter Tryd.func65, Tryd.ntmps65
    go_wp2_with (at_builtin; refine Lib.wpList_append_own_string _ rfl _ _ 23 9 rfl n₀ 5 i0 Tryd.underlying23 Tryd.underlying9 hi hz0 hz1 hz2 _ _ _ rfl hown ⟨#[92, 116]⟩ rfl (by show l.length + 2 ≤ maxLen; unfold maxLen; omega) (by show l.length + 2 ≤ _; omega) hn ?_; intro v' w1 hown1 hgrow _)
    go_ret
    obtain ⟨k1, k2⟩ := own_fin hown (Lib.OthersKept.refl 5 none w) (Below.refl n₀ w) hn hgrow
    refine ⟨v', rfl, ?_, k1, k2⟩
    have e1 : (l ++ [92, 116]).length = l.length + 2 := by simp
    have e2 : (l ++ [92, 116]).map byteV = l.map byteV ++ Lib.strCells ⟨#[92, 116]⟩ := by simp [byteV, Lib.strCells]
    rw [e1, e2]; exact hown1
  · by_cases c2 : b = 10
    · have hE : byteT b = [92, 110] := by unfold byteT; rw [if_neg c1, if_pos c2]
      rw [hE]
      subst c2
      clear hE HS hb
      go_enter Tryd.func65, Tryd.ntmps65
      go_wp2_with (at_builtin; refine Lib.wpList_append_own_string _ rfl _ _ 23 9 rfl n₀ 5 i0 Tryd.underlying23 Tryd.underlying9 hi hz0 hz1 hz2 _ _ _ rfl hown ⟨#[92, 110]⟩ rfl (by show l.length + 2 ≤ maxLen; unfold maxLen; omega) (by show l.length + 2 ≤ _; omega) hn ?_; intro v' w1 hown1 hgrow _)
      go_ret
      obtain ⟨k1, k2⟩ := own_fin hown (Lib.OthersKept.refl 5 none w) (Below.refl n₀ w) hn hgrow
      refine ⟨v', rfl, ?_, k1, k2⟩
      have e1 : (l ++ [92, 110]).length = l.length + 2 := by simp
      have e2 : (l ++ [92, 110]).map byteV = l.map byteV ++ Lib.strCells ⟨#[92, 110]⟩ := by simp [byteV, Lib.strCells]
      rw [e1, e2]; exact hown1
    · by_cases c3 : b = 13
      · have hE : byteT b = [92, 114] := by unfold byteT; rw [if_neg c1, if_neg c2, if_pos c3]
        rw [hE]
        subst c3
        clear hE HS hb
        go_enter Tryd.func65, Tryd.ntmps65
        go_wp2_with (at_builtin; refine Lib.wpList_append_own_string _ rfl _ _ 23 9 rfl n₀ 5 i0 Tryd.underlying23 Tryd.underlying9 hi hz0 hz1 hz2 _ _ _ rfl hown ⟨#[92, 114]⟩ rfl (by show l.length + 2 ≤ maxLen; unfold maxLen; omega) (by show l.length + 2 ≤ _; omega) hn ?_; intro v' w1 hown1 hgrow _)
        go_ret
        obtain ⟨k1, k2⟩ := own_fin hown (Lib.OthersKept.refl 5 none w) (Below.refl n₀ w) hn hgrow
        refine ⟨v', rfl, ?_, k1, k2⟩
        have e1 : (l ++ [92, 114]).length = l.length + 2 := by simp
        have e2 : (l ++ [92, 114]).map byteV = l.map byteV ++ Lib.strCells ⟨#[92, 114]⟩ := by simp [byteV, Lib.strCells]
        rw [e1, e2]; exact hown1
      · have d1 : ¬ (b : Int) = 9 := by omega
        have d2 : ¬ (b : Int) = 10 := by omega
        have d3 : ¬ (b : Int) = 13 := by omega
        cases hsg : signB b with
        | true =>
          have hE : byteT b = [92, b] := by unfold byteT; rw [if_neg c1, if_neg c2, if_neg c3, if_pos hsg]
          rw [hE]
          clear hE
          go_enter Tryd.func65, Tryd.ntmps65
          go_wp2_with (first
            | (go_at_call 71; refine (HS _).out.mono ?_; rintro e w' ⟨rfl, rfl⟩)
            | (at_builtin; refine wpList_append_own _ rfl _ _ 23 rfl n₀ 5 i0 (.int .u8 0) 1 1 Tryd.underlying23 hi hz0 hz1 hz2 rfl (by decide) _ _ _ rfl (hown.alloc _) ⟨w.heap.size, 0, none⟩ 2 2 [.int .u8 92, .int .u8 b] rfl rfl (cell_two_new _ _ _ _) (by simp [Value.oneCell']) (by unfold maxLen; omega) (by omega) (by simp; omega) ?_; intro v' w1 hown1 hgrow _))
          go_ret
          obtain ⟨k1, k2⟩ := own_fin (hown.alloc _) ((Lib.OthersKept.refl 5 none w).alloc _) ((Below.refl n₀ w).alloc hn _) hn hgrow
          refine ⟨v', rfl, ?_, k1, k2⟩
          have e1 : (l ++ [92, b]).length = l.length + 2 := by simp
          have e2 : (l ++ [92, b]).map byteV = l.map byteV ++ [.int .u8 92, .int .u8 b] := by simp [byteV]
          rw [e1, e2]; exact hown1
        | false =>
          by_cases c5 : 32 < b ∧ b ≤ 126
          · have hE : byteT b = [b] := by unfold byteT; rw [if_neg c1, if_neg c2, if_neg c3, hsg, if_neg (by simp), if_pos c5]
            rw [hE]
            clear hE
            obtain ⟨c5, c6⟩ := c5
            go_enter Tryd.func65, Tryd.ntmps65
            go_wp2_with (first
              | (go_at_call 71; refine (HS _).out.mono ?_; rintro e w' ⟨rfl, rfl⟩)
              | (at_builtin; refine wpList_append_own _ rfl _ _ 23 rfl n₀ 5 i0 (.int .u8 0) 1 1 Tryd.underlying23 hi hz0 hz1 hz2 rfl (by decide) _ _ _ rfl (hown.alloc _) ⟨w.heap.size, 0, none⟩ 1 1 [.int .u8 b] rfl rfl (cell_one_new _ _ _) (by simp [Value.oneCell']) (by unfold maxLen; omega) (by omega) (by simp; omega) ?_; intro v' w1 hown1 hgrow _))
            go_ret
            obtain ⟨k1, k2⟩ := own_fin (hown.alloc _) ((Lib.OthersKept.refl 5 none w).alloc _) ((Below.refl n₀ w).alloc hn _) hn hgrow
            refine ⟨v', rfl, ?_, k1, k2⟩
            have e1 : (l ++ [b]).length = l.length + 1 := by simp
            have e2 : (l ++ [b]).map byteV = l.map byteV ++ [.int .u8 b] := by simp [byteV]
            rw [e1, e2]; exact hown1
          · have hE : byteT b = [92, 120, hexC (b / 16), hexC (b % 16)] := by unfold byteT; rw [if_neg c1, if_neg c2, if_neg c3, hsg, if_neg (by simp), if_neg c5]
            rw [hE]
            clear hE
            have hI1 : ∀ w', (Instr.index 9 (.string ⟨#[48, 49, 50, 51, 52, 53, 54, 55, 56, 57, 97, 98, 99, 100, 101, 102]⟩) (.int .u8 ((b : Int) / 16))).run Tryd.prog w' = .ok (.int .u8 (hexC (b / 16) : Nat)) w' := by
              rw [show ((b : Int) / 16) = ((b / 16 : Nat) : Int) by omega]; exact hex_ix (b / 16) (by omega)
            have hI2 : ∀ w', (Instr.index 9 (.string ⟨#[48, 49, 50, 51, 52, 53, 54, 55, 56, 57, 97, 98, 99, 100, 101, 102]⟩) (.int .u8 ((b : Int) % 16))).run Tryd.prog w' = .ok (.int .u8 (hexC (b % 16) : Nat)) w' := by
              rw [show ((b : Int) % 16) = ((b % 16 : Nat) : Int) by omega]; exact hex_ix (b % 16) (by omega)
            have hb15 : bits .and .u8 (b : Int) 15 = (b : Int) % 16 := by
              have h := u8_and_nat b 15 hb (by omega)
              rw [and15] at h
              exact h.trans (by omega)
            by_cases c6 : 32 < b
            · have c7 : ¬ b ≤ 126 := fun h => c5 ⟨c6, h⟩
              go_enter Tryd.func65, Tryd.ntmps65
              go_wp2_with (go_at_call 71; refine (HS _).out.mono ?_; rintro e w' ⟨rfl, rfl⟩)
              clear HS hsg
              go_region_law (first | (refine step_append_lies _ (by rfl) _ _ _ (by rfl) n₀ 5 i0 (.int .u8 0) 1 1 Tryd.underlying23 hi hz0 hz1 hz2 rfl (by decide) _ _ _ (by rfl) (hown.alloc (.cells #[.int .u8 92, .int .u8 120, .int .u8 (hexC (b / 16) : Nat), .int .u8 (hexC (b % 16) : Nat)] 5)) ⟨w.heap.size, 0, none⟩ 4 4 [.int .u8 92, .int .u8 120, .int .u8 (hexC (b / 16) : Nat), .int .u8 (hexC (b % 16) : Nat)] (by rfl) (by rfl) (World.news_of_block (cs := #[.int .u8 92, .int .u8 120, .int .u8 (hexC (b / 16) : Nat), .int .u8 (hexC (b % 16) : Nat)]) (Blk.new w 5 _)) (by simp [Value.oneCell']) (by omega) (by unfold maxLen; omega) (by omega) (by simp; omega) _ rfl ?_; intro g cap w1 hown1 hgrow _ _))
              all_goals go_wp2
              all_goals go_ret
              all_goals obtain ⟨k1, k2⟩ := own_fin (w1 := (w.alloc _).drew) (hown.alloc _) ((Lib.OthersKept.refl 5 none w).alloc _).drew ((Below.refl n₀ w).alloc hn _).drew hn hgrow
              all_goals refine ⟨_, rfl, ?_, k1, k2⟩
              all_goals have e1 : (l ++ [92, 120, hexC (b / 16), hexC (b % 16)]).length = l.length + 4 := by simp
              all_goals have e2 : (l ++ [92, 120, hexC (b / 16), hexC (b % 16)]).map byteV = l.map byteV ++ [.int .u8 92, .int .u8 120, .int .u8 (hexC (b / 16) : Nat), .int .u8 (hexC (b % 16) : Nat)] := by simp [byteV]
              all_goals rw [e1, e2]
              all_goals exact hown1
            · go_enter Tryd.func65, Tryd.ntmps65
              go_wp2_with (go_at_call 71; refine (HS _).out.mono ?_; rintro e w' ⟨rfl, rfl⟩)
              clear HS hsg
              go_region_law (first | (refine step_append_lies _ (by rfl) _ _ _ (by rfl) n₀ 5 i0 (.int .u8 0) 1 1 Tryd.underlying23 hi hz0 hz1 hz2 rfl (by decide) _ _ _ (by rfl) (hown.alloc (.cells #[.int .u8 92, .int .u8 120, .int .u8 (hexC (b / 16) : Nat), .int .u8 (hexC (b % 16) : Nat)] 5)) ⟨w.heap.size, 0, none⟩ 4 4 [.int .u8 92, .int .u8 120, .int .u8 (hexC (b / 16) : Nat), .int .u8 (hexC (b % 16) : Nat)] (by rfl) (by rfl) (World.news_of_block (cs := #[.int .u8 92, .int .u8 120, .int .u8 (hexC (b / 16) : Nat), .int .u8 (hexC (b % 16) : Nat)]) (Blk.new w 5 _)) (by simp [Value.oneCell']) (by omega) (by unfold maxLen; omega) (by omega) (by simp; omega) _ rfl ?_; intro g cap w1 hown1 hgrow _ _))
              all_goals go_wp2
              all_goals go_ret
              all_goals obtain ⟨k1, k2⟩ := own_fin (w1 := (w.alloc _).drew) (hown.alloc _) ((Lib.OthersKept.refl 5 none w).alloc _).drew ((Below.refl n₀ w).alloc hn _).drew hn hgrow
              all_goals refine ⟨_, rfl, ?_, k1, k2⟩
              all_goals have e1 : (l ++ [92, 120, hexC (b / 16), hexC (b % 16)]).length = l.length + 4 := by simp
              all_goals have e2 : (l ++ [92, 120, hexC (b / 16), hexC (b % 16)]).map byteV = l.map byteV ++ [.int .u8 92, .int .u8 120, .int .u8 (hexC (b / 16) : Nat), .int .u8 (hexC (b % 16) : Nat)] := by simp [byteV]
              all_goals rw [e1, e2]
              all_goals exact hown1
end Go.Proofs.YtegmoeeeomjkgaaDoor
end
section
namespace Go.Proofs.YtegmoeeeomjkgaaDoor
open Go Go.RowKit

theorem blk_others {W W' : World} {B t : Nat} {cs : Array Value} (h : Blk W B t cs) (ht : t ≠ 5) (hk : Lib.OthersKept 5 none W W') : Blk W' B t cs :=
  hk B _ h (by simp) (fun c fz e => by cases e; exact ht rfl)

/-- A range's text. -/
def rangeT (r : Nat × Nat) : List Nat :=
  if r.1 = r.2 then byteT r.1 else if 1 < (r.2 + 256 - r.1) % 256 then byteT r.1 ++ [45] ++ byteT r.2 else byteT r.1 ++ byteT r.2

theorem byteT_len (b : Nat) : (byteT b).length ≤ 4 := by
  unfold byteT
  repeat (split; simp)
  simp

set_option maxRecDepth 100000 in
set_option maxHeartbeats 4000000 in
theorem appendRange_any (v : Value) (l : List Nat) (r : Nat × Nat) (h1 : r.1 < 256) (h2 : r.2 < 256) (n₀ : Nat) (w : World) (hown : w.ownsRow n₀ 5 1 v l.length (l.map byteV)) (hn : n₀ ≤ w.heap.size) (hl : l.length ≤ 1000000) :
    Calls Tryd.prog 55 #[v, .agg #[.int .u8 r.1, .int .u8 r.2]] w (bytePost (l ++ rangeT r) n₀ w) := by
  obtain ⟨i0, hi, hz0, hz1, hz2⟩ := info_parts Tryd.info5
  obtain ⟨f, t⟩ := r
  dsimp only at h1 h2 ⊢
  have HA := Lib.hid (appendByte_any v l f h1 n₀ (w.alloc (.cells #[.int .u8 f, .int .u8 t] 26)) (hown.alloc _) (by simp; omega) (by omega))
  have hlen1 := byteT_len f
  go_enter Tryd.func55, Tryd.ntmps55
  go_wp2_with fail
  refine HA.out.mono ?_
  rintro e w1 ⟨v1, rfl, hown1, hk1, hB1⟩
  have hb1 := blk_others (Blk.new w 26 #[.int .u8 f, .int .u8 t]) (by decide) hk1
  have c0 : w1.cell? ⟨w.heap.size, 0, none⟩ = some (.int .u8 f) := hb1.cell 0
  have c1 : w1.cell? ⟨w.heap.size, 1, none⟩ = some (.int .u8 t) := hb1.cell 1
  have HK1 := Lib.hid (((Lib.OthersKept.refl 5 none w).alloc (.cells #[.int .u8 f, .int .u8 t] 26)).trans hk1)
  have HB1 := Lib.hid (((Below.refl n₀ w).alloc hn (.cells #[.int .u8 f, .int .u8 t] 26)).trans hB1)
  have HO1 := Lib.hid hown1
  have hn1 : n₀ ≤ w1.heap.size := Nat.le_trans (by simp; omega) hB1.size
  have hll : (l ++ byteT f).length ≤ 1000010 := by simp; omega
  have HBK := Lib.hid hb1
  clear hk1 hB1 HA hb1
  by_cases e1 : f = t
  · subst e1
    have hR : rangeT (f, f) = byteT f := by unfold rangeT; simp
    have HRR := Lib.hid hR
    clear hR
    go_wp2
    go_ret
    exact ⟨v1, rfl, by rw [HRR.out]; exact HO1.out, HK1.out, HB1.out⟩
  · have e1' : ((f : Int) == (t : Int)) = false := by simpa using fun h => e1 (by omega)
    have hsub : IntKind.u8.wrap ((t : Int) - (f : Int)) = (((t + 256 - f) % 256 : Nat) : Int) := by rw [IntKind.wrap_u8']; omega
    obtain ⟨l1, hl1⟩ : ∃ l1, l1 = l ++ byteT f := ⟨_, rfl⟩
    rw [← hl1] at HO1 hll
    have HA2 : Hid (∀ (l2 : List Nat) (v2 : Value) (w2 : World), l2.length ≤ 1000020 → w2.ownsRow n₀ 5 1 v2 l2.length (l2.map byteV) → n₀ ≤ w2.heap.size → Calls Tryd.prog 65 #[v2, .int .u8 t] w2 (bytePost (l2 ++ byteT t) n₀ w2)) :=
      fun l2 v2 w2 a b c => appendByte_any v2 l2 t h2 n₀ w2 b c (by omega)
    clear hown1
    by_cases e2 : 1 < (t + 256 - f) % 256
    · have hR : Hid (l ++ rangeT (f, t) = (l1 ++ [45]) ++ byteT t) := by refine Lib.hid ?_; unfold rangeT; rw [hl1, if_neg e1, if_pos e2]; simp
      clear hl1
      have e2' : (1 : Int) < ((t : Int) - (f : Int)) % 256 := by omega
      go_wp2_with (first
        | (at_builtin; refine wpList_append_own _ rfl _ _ 23 rfl n₀ 5 i0 (.int .u8 0) 1 1 Tryd.underlying23 hi hz0 hz1 hz2 rfl (by decide) _ _ _ rfl (HO1.out.alloc _) ⟨w1.heap.size, 0, none⟩ 1 1 [.int .u8 45] rfl rfl (cell_one_new _ _ _) (by simp [Value.oneCell']) (by unfold maxLen; omega) (by omega) (by simp; omega) ?_; intro v2 w2 hown2 hgrow _; have hf2 := own_fin (HO1.out.alloc _) ((Lib.OthersKept.refl 5 none w1).alloc _) ((Below.refl n₀ w1).alloc hn1 _) hn1 hgrow; have d1 : w2.cell? ⟨w.heap.size, 1, none⟩ = some (.int .u8 t) := (blk_others HBK.out (by decide) hf2.1).cell 1)
        | fail)
      have HO2 : w2.ownsRow n₀ 5 1 v2 (l1 ++ [45]).length ((l1 ++ [45]).map byteV) := by
        have a1 : (l1 ++ [45]).length = l1.length + 1 := by simp
        have a2 : (l1 ++ [45]).map byteV = l1.map byteV ++ [.int .u8 45] := by simp [byteV]
        rw [a1, a2]; exact hown2
      refine (HA2.out (l1 ++ [45]) v2 w2 (by simp; omega) HO2 (Nat.le_trans hn1 hf2.2.size)).mono ?_
      rintro e w3 ⟨v3, rfl, hown3, hk3, hB3⟩
      go_wp2
      go_ret
      exact ⟨v3, rfl, by rw [hR.out]; exact hown3, (HK1.out.trans hf2.1).trans hk3, (HB1.out.trans hf2.2).trans hB3⟩
    · have hR : Hid (l ++ rangeT (f, t) = l1 ++ byteT t) := by refine Lib.hid ?_; unfold rangeT; rw [hl1, if_neg e1, if_neg e2]; simp
      clear hl1
      have e2' : ¬ (1 : Int) < ((t : Int) - (f : Int)) % 256 := by omega
      go_wp2_with fail
      refine (HA2.out l1 v1 w1 (by omega) HO1.out hn1).mono ?_
      rintro e w3 ⟨v3, rfl, hown3, hk3, hB3⟩
      go_wp2
      go_ret
      exact ⟨v3, rfl, by rw [hR.out]; exact hown3, HK1.out.trans hk3, HB1.out.trans hB3⟩
end Go.Proofs.YtegmoeeeomjkgaaDoor
end
section
namespace Go.Proofs.YtegmoeeeomjkgaaDoor
open Go Go.RowKit

theorem byteSum_lt (g : Nat → Nat) (h : ∀ b : Fin 256, g b.val < 256) : ∀ n x, byteSum g n x < 256 ^ n := by
  intro n
  induction n with
  | zero => intro x; simp [byteSum]
  | succ n ih =>
    intro x
    have h1 := h ⟨x % 256, by omega⟩
    have h2 := ih (x / 256)
    dsimp only at h1
    rw [byteSum, Nat.pow_succ]
    generalize 256 ^ n = Q at *
    omega

def rep : Nat → Nat
  | 0 => 0
  | n + 1 => 1 + 256 * rep n
theorem byteSum_le (g : Nat → Nat) (c : Nat) (h : ∀ b : Fin 256, g b.val ≤ c) : ∀ n x, byteSum g n x ≤ c * rep n := by
  intro n
  induction n with
  | zero => intro x; simp [byteSum]
  | succ n ih =>
    intro x
    have h1 := h ⟨x % 256, by omega⟩
    have h2 := ih (x / 256)
    dsimp only at h1
    rw [byteSum, rep, Nat.mul_add, Nat.mul_one, Nat.mul_left_comm]
    generalize c * rep n = Q at *
    omega

theorem wrapu (a : Nat) (h : a < 18446744073709551616) : IntKind.u64.wrap (a : Int) = (a : Int) := by rw [IntKind.wrap_u64]; omega

theorem ofInt_wrap64 (n : Int) : BitVec.ofInt 64 (wrap64 n) = BitVec.ofInt 64 n := by
  apply BitVec.eq_of_toNat_eq
  rw [BitVec.toNat_ofInt, BitVec.toNat_ofInt]
  congr 1
  unfold wrap64
  omega

theorem and127 (n : Nat) (h : n < 18446744073709551616) : bits .and .i64 (wrap64 (n : Int)) 127 = ((n % 128 : Nat) : Int) := by
  show IntKind.i64.wrap ((BitVec.ofInt 64 (wrap64 (n : Int)) &&& BitVec.ofInt 64 127).toNat : Int) = _
  rw [ofInt_wrap64, BitVec.toNat_and, BitVec.ofInt_natCast, BitVec.toNat_ofNat, Nat.mod_eq_of_lt h]
  rw [show (BitVec.ofInt 64 127).toNat = 2 ^ 7 - 1 by decide, Nat.and_two_pow_sub_one_eq_mod]
  have : n % 2 ^ 7 < 128 := Nat.mod_lt _ (by decide)
  show IntKind.i64.wrap ((n % 128 : Nat) : Int) = _
  have hm : n % 128 < 128 := this
  generalize n % 128 = m at hm
  simp [IntKind.wrap, IntKind.bits, IntKind.signed]
  omega

set_option maxRecDepth 100000 in
set_option maxHeartbeats 2000000 in
theorem onesCount_any (x : Nat) (hx : x < 18446744073709551616) (w : World) :
    Calls Tryd.prog 44 #[.int .u64 x] w fun e w' => e = .returned (.int .i64 (pc x 64)) ∧ w = w' := by
  have m1 : mask 85 8 = 6148914691236517205 := by decide
  have m2 : mask 51 8 = 3689348814741910323 := by decide
  have m3 : mask 15 8 = 1085102592571150095 := by decide
  have k1 := sum1 8 x
  have k2 := sum2 8 x
  have k3 := sum3 8 x
  have l1 : byteSum s1 8 x < 18446744073709551616 := byteSum_lt _ (fun b => by have := s1_le b; omega) 8 x
  have l2 : byteSum (fun b => s2 (s1 b)) 8 x < 18446744073709551616 := byteSum_lt _ (fun b => by have := s2_le b; omega) 8 x
  obtain ⟨a0, a1, a2, a3, a4, a5, a6, a7, hy, h0, h1, h2, h3, h4, h5, h6, h7, hpc⟩ := byteSum8 x
  obtain ⟨y, hY⟩ : ∃ y, y = byteSum (fun b => pc b 8) 8 x := ⟨_, rfl⟩
  rw [← hY] at hy k3
  obtain ⟨ly, t1, t2, t3, e1, e2, e3, b1, b2, b3, hlast⟩ := last_step a0 a1 a2 a3 a4 a5 a6 a7 h0 h1 h2 h3 h4 h5 h6 h7 y hy
  rw [← hpc] at hlast
  clear hy h0 h1 h2 h3 h4 h5 h6 h7 hpc hY
  rw [m1] at k1
  rw [m2] at k2
  rw [m3] at k3
  clear m1 m2 m3
  generalize byteSum s1 8 x = X1 at *
  have l3 : byteSum (fun b => s2 (s1 b)) 8 x / 16 + byteSum (fun b => s2 (s1 b)) 8 x < 18446744073709551616 := by
    have h := byteSum_le (fun b => s2 (s1 b)) 68 (fun b => (s2_le b).1) 8 x
    rw [show 68 * rep 8 = 4919131752989213764 by decide] at h
    omega
  generalize byteSum (fun b => s2 (s1 b)) 8 x = X2 at *
  have q1 := bits_and_u64_nat (x / 2) 6148914691236517205 (by omega) (by omega)
  have q2 := bits_and_u64_nat x 6148914691236517205 hx (by omega)
  have q3 := bits_and_u64_nat (X1 / 4) 3689348814741910323 (by omega) (by omega)
  have q4 := bits_and_u64_nat X1 3689348814741910323 l1 (by omega)
  have q5 := bits_and_u64_nat (X2 / 16 + X2) 1085102592571150095 l3 (by omega)
  rw [k3] at q5
  generalize pc x 64 = N at *
  have r1 : IntKind.u64.wrap (bits .and .u64 ((x : Int) / 2) 6148914691236517205 + bits .and .u64 (x : Int) 6148914691236517205) = (X1 : Int) := by
    rw [show ((x : Int) / 2) = ((x / 2 : Nat) : Int) by omega]
    refine (congrArg IntKind.u64.wrap ?_).trans (wrapu X1 l1)
    rw [← k1]
    exact (congr (congrArg HAdd.hAdd q1) q2).trans (Int.natCast_add _ _).symm
  have r2 : IntKind.u64.wrap (bits .and .u64 ((X1 : Int) / 4) 3689348814741910323 + bits .and .u64 (X1 : Int) 3689348814741910323) = (X2 : Int) := by
    rw [show ((X1 : Int) / 4) = ((X1 / 4 : Nat) : Int) by omega]
    refine (congrArg IntKind.u64.wrap ?_).trans (wrapu X2 l2)
    rw [← k2]
    exact (congr (congrArg HAdd.hAdd q3) q4).trans (Int.natCast_add _ _).symm
  have r3 : bits .and .u64 (IntKind.u64.wrap ((X2 : Int) / 16 + (X2 : Int))) 1085102592571150095 = (y : Int) := by
    have e : IntKind.u64.wrap ((X2 : Int) / 16 + (X2 : Int)) = ((X2 / 16 + X2 : Nat) : Int) := by
      rw [show ((X2 : Int) / 16 + (X2 : Int)) = ((X2 / 16 + X2 : Nat) : Int) by omega]; exact wrapu _ l3
    rw [e]; exact q5
  have r4 : IntKind.u64.wrap ((y : Int) + (y : Int) / 256) = (t1 : Int) := by
    rw [show ((y : Int) + (y : Int) / 256) = ((y + y / 256 : Nat) : Int) by omega, ← e1]; exact wrapu _ b1
  have r5 : IntKind.u64.wrap ((t1 : Int) + (t1 : Int) / 65536) = (t2 : Int) := by
    rw [show ((t1 : Int) + (t1 : Int) / 65536) = ((t1 + t1 / 65536 : Nat) : Int) by omega, ← e2]; exact wrapu _ b2
  have r6 : IntKind.u64.wrap ((t2 : Int) + (t2 : Int) / 4294967296) = (t3 : Int) := by
    rw [show ((t2 : Int) + (t2 : Int) / 4294967296) = ((t2 + t2 / 4294967296 : Nat) : Int) by omega, ← e3]; exact wrapu _ b3
  have HN := Lib.hid hlast
  have B3 := Lib.hid b3
  clear q1 q2 q3 q4 q5 k1 k2 k3 l1 l2 l3 e1 e2 e3 b1 b2 b3 hlast ly hx
  go_enter Tryd.func44, Tryd.ntmps44
  go_wp2
  go_ret
  exact ⟨by rw [and127 t3 B3.out, HN.out]; rfl, rfl⟩

theorem pc_words (x n : Nat) : pc x (64 + n) = pc (x % 2 ^ 64) 64 + pc (x / 2 ^ 64) n := by
  induction n with
  | zero =>
    have h : ∀ m, m ≤ 64 → pc x m = pc (x % 2 ^ 64) m := by
      intro m
      induction m with
      | zero => intro _; rfl
      | succ m ih =>
        intro hm
        rw [pc, pc, ih (by omega), Nat.testBit_mod_two_pow]
        simp [show m < 64 by omega]
    show pc x 64 = pc (x % 2 ^ 64) 64 + 0
    rw [h 64 (Nat.le_refl _), Nat.add_zero]
  | succ n ih =>
    have h : (x / 2 ^ 64).testBit n = x.testBit (64 + n) := by
      rw [Nat.add_comm 64 n]; exact Nat.testBit_div_two_pow x n
    show pc x (64 + n) + (if x.testBit (64 + n) then 1 else 0) = pc (x % 2 ^ 64) 64 + (pc (x / 2 ^ 64) n + (if (x / 2 ^ 64).testBit n then 1 else 0))
    rw [ih, h]
    omega

/-- How many bytes a set has. -/
def cnt (s : BS) : Nat := pc s.toNat 256

theorem wd_nat (s : BS) (i : Nat) : (wd s i).toNat = s.toNat / 2 ^ (64 * i) % 2 ^ 64 := by
  unfold wd; rw [BitVec.extractLsb'_toNat, Nat.shiftRight_eq_div_pow]

theorem cnt_words (s : BS) : cnt s = pc (wd s 0).toNat 64 + pc (wd s 1).toNat 64 + pc (wd s 2).toNat 64 + pc (wd s 3).toNat 64 := by
  have hlt := s.isLt
  unfold cnt
  rw [wd_nat, wd_nat, wd_nat, wd_nat]
  generalize s.toNat = x at *
  have g0 : pc x 256 = pc (x % 2 ^ 64) 64 + pc (x / 2 ^ 64) 192 := pc_words x 192
  have g1 : pc (x / 2 ^ 64) 192 = pc (x / 2 ^ 64 % 2 ^ 64) 64 + pc (x / 2 ^ 64 / 2 ^ 64) 128 := pc_words (x / 2 ^ 64) 128
  have g2 : pc (x / 2 ^ 64 / 2 ^ 64) 128 = pc (x / 2 ^ 64 / 2 ^ 64 % 2 ^ 64) 64 + pc (x / 2 ^ 64 / 2 ^ 64 / 2 ^ 64) 64 := pc_words (x / 2 ^ 64 / 2 ^ 64) 64
  have i1 : x / 2 ^ (64 * 1) = x / 2 ^ 64 := rfl
  have i2 : x / 2 ^ (64 * 2) = x / 2 ^ 64 / 2 ^ 64 := by rw [Nat.div_div_eq_div_mul]
  have i3 : x / 2 ^ (64 * 3) = x / 2 ^ 64 / 2 ^ 64 / 2 ^ 64 := by rw [Nat.div_div_eq_div_mul, Nat.div_div_eq_div_mul]
  have i0 : x / 2 ^ (64 * 0) = x := by simp
  have i4 : x / 2 ^ 64 / 2 ^ 64 / 2 ^ 64 % 2 ^ 64 = x / 2 ^ 64 / 2 ^ 64 / 2 ^ 64 := by
    apply Nat.mod_eq_of_lt
    rw [Nat.div_div_eq_div_mul, Nat.div_div_eq_div_mul]
    apply Nat.div_lt_of_lt_mul
    exact hlt
  rw [i0, i1, i2, i3, i4, g0, g1, g2, Nat.add_assoc, Nat.add_assoc]

theorem pc_le (x : Nat) : ∀ n, pc x n ≤ n := by
  intro n
  induction n with
  | zero => exact Nat.le_refl _
  | succ n ih => rw [pc]; split <;> omega

set_option maxRecDepth 100000 in
set_option maxHeartbeats 2000000 in
theorem count_any (s : BS) (w : World) : Calls Tryd.prog 31 #[vset s] w fun e w' => e = .returned (.int .i64 (cnt s)) ∧ Below w.heap.size w w' := by
  have HC := Lib.hid (cnt_words s)
  obtain ⟨N, hN⟩ : ∃ N, N = cnt s := ⟨_, rfl⟩
  rw [← hN] at HC ⊢
  clear hN
  have O0 : Hid (∀ w', Calls Tryd.prog 44 #[.int .u64 (wdI s 0)] w' fun e w'' => e = .returned (.int .i64 (pc (wd s 0).toNat 64)) ∧ w' = w'') := fun w' => onesCount_any _ (wd s 0).isLt w'
  have O1 : Hid (∀ w', Calls Tryd.prog 44 #[.int .u64 (wdI s 1)] w' fun e w'' => e = .returned (.int .i64 (pc (wd s 1).toNat 64)) ∧ w' = w'') := fun w' => onesCount_any _ (wd s 1).isLt w'
  have O2 : Hid (∀ w', Calls Tryd.prog 44 #[.int .u64 (wdI s 2)] w' fun e w'' => e = .returned (.int .i64 (pc (wd s 2).toNat 64)) ∧ w' = w'') := fun w' => onesCount_any _ (wd s 2).isLt w'
  have O3 : Hid (∀ w', Calls Tryd.prog 44 #[.int .u64 (wdI s 3)] w' fun e w'' => e = .returned (.int .i64 (pc (wd s 3).toNat 64)) ∧ w' = w'') := fun w' => onesCount_any _ (wd s 3).isLt w'
  have p0 := pc_le (wd s 0).toNat 64
  have p1 := pc_le (wd s 1).toNat 64
  have p2 := pc_le (wd s 2).toNat 64
  have p3 := pc_le (wd s 3).toNat 64
  generalize pc (wd s 0).toNat 64 = n0 at *
  generalize pc (wd s 1).toNat 64 = n1 at *
  generalize pc (wd s 2).toNat 64 = n2 at *
  generalize pc (wd s 3).toNat 64 = n3 at *
  have i0 := ix0 (wdI s 0) (wdI s 1) (wdI s 2) (wdI s 3)
  have i1 := ix1 (wdI s 0) (wdI s 1) (wdI s 2) (wdI s 3)
  have i2 := ix2 (wdI s 0) (wdI s 1) (wdI s 2) (wdI s 3)
  have i3 := ix3 (wdI s 0) (wdI s 1) (wdI s 2) (wdI s 3)
  unfold vset
  go_enter Tryd.func31, Tryd.ntmps31
  go_wp2
  go_loopw [3, 7] (fun a i wr => ∃ (k m : Nat), i = .int .i64 k ∧ a = .int .i64 m ∧ wr = w.alloc (.cells #[.int .u64 (wdI s 0), .int .u64 (wdI s 1), .int .u64 (wdI s 2), .int .u64 (wdI s 3)] 29) ∧ (k = 0 ∧ m = 0 ∨ k = 1 ∧ m = n0 ∨ k = 2 ∧ m = n0 + n1 ∨ k = 3 ∧ m = n0 + n1 + n2 ∨ k = 4 ∧ m = N))
    (fun _ i _ => 4 - (intOf i).toNat)
  case atStart => exact ⟨0, 0, rfl, rfl, rfl, .inl ⟨rfl, rfl⟩⟩
  case round =>
    obtain ⟨k, m, rfl, rfl, rfl, hk⟩ := hrel
    have hm : m ≤ 256 := by have := HC.out; omega
    rcases hk with ⟨rfl, hm2⟩ | ⟨rfl, hm2⟩ | ⟨rfl, hm2⟩ | ⟨rfl, hm2⟩ | ⟨rfl, rfl⟩
    · have HM := Lib.hid hm2
      clear hm2
      go_wp2_with (go_at_call 44; refine (O0.out _).mono ?_; rintro e w' ⟨rfl, rfl⟩)
      go_roundw
      case rel => exact ⟨1, m + n0, by go_num, by go_num, by first | rfl | trivial, .inr (.inl ⟨rfl, by rw [HM.out, Nat.zero_add]⟩)⟩
      case measure => simp [intOf]
    · have HM := Lib.hid hm2
      clear hm2
      go_wp2_with (go_at_call 44; refine (O1.out _).mono ?_; rintro e w' ⟨rfl, rfl⟩)
      go_roundw
      case rel => exact ⟨2, m + n1, by go_num, by go_num, by first | rfl | trivial, .inr (.inr (.inl ⟨rfl, by rw [HM.out]⟩))⟩
      case measure => simp [intOf]
    · have HM := Lib.hid hm2
      clear hm2
      go_wp2_with (go_at_call 44; refine (O2.out _).mono ?_; rintro e w' ⟨rfl, rfl⟩)
      go_roundw
      case rel => exact ⟨3, m + n2, by go_num, by go_num, by first | rfl | trivial, .inr (.inr (.inr (.inl ⟨rfl, by rw [HM.out]⟩)))⟩
      case measure => simp [intOf]
    · have HM := Lib.hid hm2
      clear hm2
      go_wp2_with (go_at_call 44; refine (O3.out _).mono ?_; rintro e w' ⟨rfl, rfl⟩)
      go_roundw
      case rel => exact ⟨4, m + n3, by go_num, by go_num, by first | rfl | trivial, .inr (.inr (.inr (.inr ⟨rfl, by rw [HM.out, HC.out]⟩)))⟩
      case measure => simp [intOf]
    · go_wp2
      go_ret
      exact ⟨rfl, (Below.refl _ w).alloc (Nat.le_refl _) _⟩

end Go.Proofs.YtegmoeeeomjkgaaDoor
end
section
namespace Go.Proofs.YtegmoeeeomjkgaaDoor
open Go Go.RowKit Go.Shelf

theorem ranges_any (s : BS) (w : World) (hG : Glob w) :
    Calls Tryd.prog 23 #[vset s] w fun e W' => ∃ v, e = .returned v ∧ W'.ownsRow w.heap.size 26 2 v (rngs (bytesL s)).length (cellsR (rngs (bytesL s))) ∧ (v = .slice none 0 0 ↔ rngs (bytesL s) = []) ∧ Below w.heap.size w W' :=
  callsIn_wide.1 (ranges_in 6 (Nat.le_refl _) s w hG)

/-- The text of a set, without what is put ahead. -/
def rangesT (rs : List (Nat × Nat)) : List Nat := rs.flatMap rangeT
/-- A set's text. -/
def textS (s : BS) : List Nat := if 128 < cnt s then [91, 94] ++ rangesT (rngs (bytesL (~~~s))) ++ [93] else [91] ++ rangesT (rngs (bytesL s)) ++ [93]

def bytesStr (l : List Nat) : ByteArray := strOfNums (l.map fun n : Nat => (n : Int))

theorem rangesT_snoc (rs : List (Nat × Nat)) (r : Nat × Nat) : rangesT (rs ++ [r]) = rangesT rs ++ rangeT r := by simp [rangesT]
theorem rangeT_len (r : Nat × Nat) : (rangeT r).length ≤ 9 := by
  have h1 := byteT_len r.1
  have h2 := byteT_len r.2
  unfold rangeT
  split
  · omega
  · split
    · simp; omega
    · simp; omega
theorem rangesT_len (rs : List (Nat × Nat)) : (rangesT rs).length ≤ 9 * rs.length := by
  induction rs with
  | nil => simp [rangesT]
  | cons r rs ih =>
    have := rangeT_len r
    simp [rangesT] at ih ⊢
    omega

theorem cellsR_at (rs : List (Nat × Nat)) : ∀ (i : Nat) (x : Nat × Nat), rs[i]? = some x → (cellsR rs)[i * 2]? = some (.int .u8 x.1) ∧ (cellsR rs)[i * 2 + 1]? = some (.int .u8 x.2) := by
  induction rs with
  | nil => intro i x hx; simp at hx
  | cons r rs ih =>
    intro i x hx
    have hc : cellsR (r :: rs) = .int .u8 r.1 :: .int .u8 r.2 :: cellsR rs := by simp [cellsR]
    rw [hc]
    cases i with
    | zero => simp at hx; subst hx; exact ⟨rfl, rfl⟩
    | succ i =>
      have h := ih i x (by simpa using hx)
      have e1 : (i + 1) * 2 = i * 2 + 1 + 1 := by omega
      rw [e1]
      simpa using h

/-- Ranges as they lie behind a slice that owns them. -/
theorem owned_rowR {w : World} {n₀ : Nat} {v : Value} {rs : List (Nat × Nat)} (h : w.ownsRow n₀ 26 2 v rs.length (cellsR rs)) : ∃ a cap, v = .slice a rs.length cap ∧ RowR w a rs := by
  rcases h.2 with ⟨rfl, h0⟩ | ⟨g, cap, cur, rfl, _⟩
  · have : rs = [] := List.length_eq_zero_iff.1 h0
    subst this
    exact ⟨none, 0, rfl, fun i x hx => by simp at hx⟩
  · refine ⟨_, cap, rfl, fun i x hx => ?_⟩
    have hi := (List.getElem?_eq_some_iff.1 hx).1
    have hc := cellsR_at rs i x hx
    refine ⟨g, 0, rfl, ?_, ?_⟩
    · rw [Nat.zero_add, h.cellAt (i * 2) (by omega)]; exact hc.1
    · rw [Nat.zero_add, h.cellAt (i * 2 + 1) (by omega)]; exact hc.2

theorem own_below {w w' : World} {base : Nat} {e : TypeId} {size : Nat} {v : Value} {n : Nat} {xs : List Value} {N : Nat} (h : w.ownsRow base e size v n xs) (hB : Below N w w') (hN : w.heap.size ≤ N) : w'.ownsRow base e size v n xs := by
  refine ⟨h.1, ?_⟩
  rcases h.2 with h | ⟨g, cap, cur, h1, h2, h3, h4⟩
  · exact .inl h
  · exact .inr ⟨g, cap, cur, h1, h2, (hB.block g (Nat.lt_of_lt_of_le (Array.getElem?_eq_some_iff.1 h3).1 hN)).trans h3, h4⟩

theorem own_others {w w' : World} {base : Nat} {e : TypeId} {size : Nat} {v : Value} {n : Nat} {xs : List Value} (h : w.ownsRow base e size v n xs) (he : e ≠ 5) (hk : Lib.OthersKept 5 none w w') : w'.ownsRow base e size v n xs := by
  refine ⟨h.1, ?_⟩
  rcases h.2 with h | ⟨g, cap, cur, h1, h2, h3, h4⟩
  · exact .inl h
  · exact .inr ⟨g, cap, cur, h1, h2, hk g _ h3 (by simp) (fun c fz e' => by cases e'; exact he rfl), h4⟩

theorem conv_own {n₀ : Nat} (g c : Nat) (w : World) (l : List Nat) (n : Nat) (hn : l.length = n) (ho : w.ownsRow n₀ 5 1 (.slice (some ⟨g, 0, none⟩) n c) n (l.map byteV)) :
    (convert 23 9 (.slice (some ⟨g, 0, none⟩) n c)).run Tryd.prog w = .ok (.string (bytesStr l)) w := by
  refine run_convert_bytes_arg w 23 5 Tryd.underlying23 Tryd.underlying5 g 0 n c (l.map fun n : Nat => (n : Int)) (by simpa using hn) ?_ 9 Tryd.underlying9
  intro i hi
  rw [Nat.zero_add, ho.cellAt i (by omega)]
  simp [byteV, List.getD, show i < l.length by omega]

set_option maxRecDepth 100000 in
set_option maxHeartbeats 4000000 in
theorem text_any (s : BS) (w : World) (hG : Glob w) :
    Calls Tryd.prog 38 #[vset s] w fun e w' => e = .returned (.string (bytesStr (textS s))) ∧ Below w.heap.size w w' := by
  obtain ⟨i0, hi, hz0, hz1, hz2⟩ := info_parts Tryd.info5
  have HG := Lib.hid hG
  clear hG
  have HC := fun w' => Lib.hid (count_any s w')
  have HT : Hid (textS s = if 128 < cnt s then [91, 94] ++ rangesT (rngs (bytesL (~~~s))) ++ [93] else [91] ++ rangesT (rngs (bytesL s)) ++ [93]) := rfl
  generalize cnt s = N at HC HT
  generalize textS s = TX at HT ⊢
  unfold vset
  go_enter Tryd.func38, Tryd.ntmps38
  go_wp2_with fail
  refine (HC _).out.mono ?_
  rintro e w1 ⟨rfl, hB1⟩
  have hA0 := (Blk.new w 29 (cset s)).alloc (.cells #[.int .u8 91] 5)
  have hA1 := Lib.hid (hA0.below hB1 (by simp; omega))
  have hO0 := World.ownsRow_lit (base := w.heap.size) (e := 5) (size := 1) (w.alloc (.cells (cset s) 29)) #[.int .u8 91] 1 (by simp) (by decide) rfl
  rw [World.size_alloc] at hO0
  have hO1 := Lib.hid (own_below hO0 hB1 (Nat.le_refl _))
  have HB1 : Hid (Below w.heap.size w w1) := Lib.hid ((((Below.refl _ w).alloc (Nat.le_refl _) (.cells (cset s) 29)).alloc (by simp) (.cells #[.int .u8 91] 5)).trans (hB1.mono (by simp; omega)))
  clear hA0 hO0 hB1 HC
  have hsz1 : w.heap.size ≤ w1.heap.size := HB1.out.size
  by_cases hN : 128 < N
  · have hN' : (128 : Int) < N := by omega
    have HTX : Hid (TX = [91, 94] ++ rangesT (rngs (bytesL (~~~s))) ++ [93]) := Lib.hid (by rw [HT.out, if_pos hN])
    clear HT
    have HNT := fun w' => Lib.hid (not_any s w')
    obtain ⟨ns, hns⟩ : ∃ ns, ns = ~~~s := ⟨_, rfl⟩
    rw [← hns] at HTX HNT
    clear hns
    go_wp2_with (first
      | (at_builtin; refine wpList_append_own _ rfl _ _ 23 rfl w.heap.size 5 i0 (.int .u8 0) 1 1 Tryd.underlying23 hi hz0 hz1 hz2 rfl (by decide) _ _ _ rfl (hO1.out.alloc _) ⟨w1.heap.size, 0, none⟩ 1 1 [.int .u8 94] rfl rfl (cell_one_new _ _ _) (by simp [Value.oneCell']) (by unfold maxLen; omega) (by omega) (by simp; omega) ?_; intro v2 w2 hown2 hgrow _; have hf2 := own_fin (hO1.out.alloc _) ((Lib.OthersKept.refl 5 none w1).alloc _) ((Below.refl w.heap.size w1).alloc hsz1 _) hsz1 hgrow; have hb2 := blk_others hA1.out (by decide) hf2.1; have c0 : w2.cell? ⟨w.heap.size, 0, none⟩ = some (.int .u64 (wdI s 0)) := hb2.cell 0; have c1 : w2.cell? ⟨w.heap.size, 1, none⟩ = some (.int .u64 (wdI s 1)) := hb2.cell 1; have c2 : w2.cell? ⟨w.heap.size, 2, none⟩ = some (.int .u64 (wdI s 2)) := hb2.cell 2; have c3 : w2.cell? ⟨w.heap.size, 3, none⟩ = some (.int .u64 (wdI s 3)) := hb2.cell 3)
      | fail)
    refine (HNT _).out.mono ?_
    rintro e w5 ⟨rfl, hB5⟩
    have hA5 := hb2.below hB5 hb2.lt
    have hO5 := own_below hown2 hB5 (Nat.le_refl _)
    have HB5 := Lib.hid ((HB1.out.trans hf2.2).trans (hB5.mono (Nat.le_trans hsz1 hf2.2.size)))
    have z0 : w5.cell? ⟨w.heap.size, 0, none⟩ = some (.int .u64 (wdI s 0)) := hA5.cell 0
    have z1 : w5.cell? ⟨w.heap.size, 1, none⟩ = some (.int .u64 (wdI s 1)) := hA5.cell 1
    have z2 : w5.cell? ⟨w.heap.size, 2, none⟩ = some (.int .u64 (wdI s 2)) := hA5.cell 2
    have z3 : w5.cell? ⟨w.heap.size, 3, none⟩ = some (.int .u64 (wdI s 3)) := hA5.cell 3
    have fz : ∀ i, w5.frozen? ⟨w.heap.size, i, none⟩ = false := hA5.frozen
    have hA6 := Blk.set4 hA5 (.int .u64 (wdI ns 0)) (.int .u64 (wdI ns 1)) (.int .u64 (wdI ns 2)) (.int .u64 (wdI ns 3))
    have hO6 : ((((w5.setCell ⟨w.heap.size, 0, none⟩ (.int .u64 (wdI ns 0))).setCell ⟨w.heap.size, 1, none⟩ (.int .u64 (wdI ns 1))).setCell ⟨w.heap.size, 2, none⟩ (.int .u64 (wdI ns 2))).setCell ⟨w.heap.size, 3, none⟩ (.int .u64 (wdI ns 3))).ownsRow w.heap.size 5 1 v2 ([91, 94] : List Nat).length (([91, 94] : List Nat).map byteV) := by
      have hne : v2.ownBlock ≠ some w.heap.size := by
        rcases hO5.2 with ⟨rfl, _⟩ | ⟨g, cap, cur, rfl, _, hg, _⟩
        · simp [Value.ownBlock]
        · intro e
          obtain rfl : g = w.heap.size := by simpa [Value.ownBlock] using e
          rw [show w5.heap[w.heap.size]? = _ from hA5] at hg
          cases hg
      exact ownsRow_setCell_other (ownsRow_setCell_other (ownsRow_setCell_other (ownsRow_setCell_other hO5 hne _) hne _) hne _) hne _
    have hB6 := below_set4 (B := w.heap.size) HB5.out (Nat.le_refl _) (.int .u64 (wdI ns 0)) (.int .u64 (wdI ns 1)) (.int .u64 (wdI ns 2)) (.int .u64 (wdI ns 3))
    have HA6 := Lib.hid hA6
    have HO6 := Lib.hid hO6
    have HB6 := Lib.hid hB6
    clear hA5 hO5 hB5 hb2 hf2 hown2 hgrow hA6 hO6 hB6 c0 c1 c2 c3 hA1 hO1 HNT HB5 HB1
    unfold vset
    obtain ⟨w6, hw6⟩ : ∃ w6, w6 = (((w5.setCell ⟨w.heap.size, 0, none⟩ (.int .u64 (wdI ns 0))).setCell ⟨w.heap.size, 1, none⟩ (.int .u64 (wdI ns 1))).setCell ⟨w.heap.size, 2, none⟩ (.int .u64 (wdI ns 2))).setCell ⟨w.heap.size, 3, none⟩ (.int .u64 (wdI ns 3)) := ⟨_, rfl⟩
    rw [← hw6] at HA6 HO6 HB6
    have HW6 := Lib.hid hw6
    clear hw6
    have c0 : w6.cell? ⟨w.heap.size, 0, none⟩ = some (.int .u64 (wdI ns 0)) := HA6.out.cell 0
    have c1 : w6.cell? ⟨w.heap.size, 1, none⟩ = some (.int .u64 (wdI ns 1)) := HA6.out.cell 1
    have c2 : w6.cell? ⟨w.heap.size, 2, none⟩ = some (.int .u64 (wdI ns 2)) := HA6.out.cell 2
    have c3 : w6.cell? ⟨w.heap.size, 3, none⟩ = some (.int .u64 (wdI ns 3)) := HA6.out.cell 3
    have HR := Lib.hid (ranges_any ns w6 (HG.out.below (Nat.le_refl _) HB6.out))
    have hrl := rngs_length (bytesL ns)
    have hbl := length_bytesL ns
    have hsm := rngs_small (bytesL ns) (fun x hx => ((mem_bytesL ns x).1 hx).1)
    obtain ⟨rs, hrs⟩ : ∃ rs, rs = rngs (bytesL ns) := ⟨_, rfl⟩
    rw [← hrs] at HR HTX hrl hsm
    have hrl2 : rs.length ≤ 256 := by omega
    clear hrs hrl hbl
    go_wp2_with fail
    rw [← HW6.out]
    refine HR.out.mono ?_
    rintro e w2 ⟨vr, rfl, hown2, _, hB2⟩
    obtain ⟨ar, cr, rfl, _⟩ := owned_rowR hown2
    have hOR := Lib.hid hown2
    have hOL := Lib.hid (own_below HO6.out hB2 (Nat.le_refl _))
    have HB2 := Lib.hid (HB6.out.trans (hB2.mono HB6.out.size))
    clear hown2 hB2 c0 c1 c2 c3 HR HA6 HO6
    go_wp2
    go_loopw [3, 18] (fun q p wr => ∃ (k : Nat), p = .int .i64 k ∧ k ≤ rs.length ∧ Hid (wr.ownsRow w.heap.size 5 1 q ([91, 94] ++ rangesT (rs.take k)).length (([91, 94] ++ rangesT (rs.take k)).map byteV)) ∧ Hid (wr.ownsRow w6.heap.size 26 2 (.slice ar rs.length cr) rs.length (cellsR rs)) ∧ Hid (Below w.heap.size w wr))
      (fun _ p _ => rs.length - (intOf p).toNat)
    case atStart => exact ⟨0, rfl, Nat.zero_le _, by simpa [rangesT, byteV] using hOL, hOR, HB2⟩
    case round =>
      clear hOL hOR HB2
      obtain ⟨k, rfl, hk, hO, hR, hB⟩ := hrel
      have hll : ([91, 94] ++ rangesT (rs.take k)).length ≤ 5000 := by
        have h1 := rangesT_len (rs.take k)
        rw [List.length_take] at h1
        simp only [List.length_append, List.length_cons, List.length_nil]
        omega
      by_cases hlt : k < rs.length
      · have HX : Hid (rs[k]? = some rs[k]) := Lib.hid (List.getElem?_eq_getElem hlt)
        obtain ⟨x1, x2⟩ := hsm rs[k] (List.getElem_mem hlt)
        obtain ⟨x, hx⟩ : ∃ x, rs[k] = x := ⟨_, rfl⟩
        rw [hx] at HX x1 x2
        have HL : Hid (([91, 94] ++ rangesT (rs.take k)) ++ rangeT x = [91, 94] ++ rangesT (rs.take (k + 1))) := by
          refine Lib.hid ?_
          rw [List.take_add_one, HX.out]
          show _ = [91, 94] ++ rangesT (rs.take k ++ [x])
          rw [rangesT_snoc, List.append_assoc]
        clear hx
        obtain ⟨f, t⟩ := x
        dsimp only at x1 x2
        obtain ⟨a', cap', hsl, hrow⟩ := owned_rowR hR.out
        cases hsl
        obtain ⟨b, off, rfl, r1, r2⟩ := hrow k _ HX.out
        have HAR := fun (wq : World) (ho : wq.ownsRow w.heap.size 5 1 u3 ([91, 94] ++ rangesT (rs.take k)).length (([91, 94] ++ rangesT (rs.take k)).map byteV)) (hn : w.heap.size ≤ wq.heap.size) => Lib.hid (appendRange_any u3 ([91, 94] ++ rangesT (rs.take k)) (f, t) x1 x2 w.heap.size wq ho hn (by omega))
        have hszr : w.heap.size ≤ wr.heap.size := hB.out.size
        go_wp2_with fail
        refine (HAR _ (hO.out.alloc _) (by simp; omega)).out.mono ?_
        rintro e w3 ⟨v3, rfl, hown3, hk3, hB3⟩
        have hR3 := Lib.hid (own_others (hR.out.alloc (.cells #[.int .u8 f, .int .u8 t] 26)) (by decide) hk3)
        have HB3 := Lib.hid ((hB.out.alloc hB.out.size (.cells #[.int .u8 f, .int .u8 t] 26)).trans hB3)
        rw [HL.out] at hown3
        have hO3 := Lib.hid hown3
        clear hown3 hk3 hB3 HAR hO hR hB r1 r2
        go_wp2
        go_roundw
        case rel => exact ⟨k + 1, by go_num, by omega, hO3, hR3, HB3⟩
        case measure => simp [intOf]; omega
      · obtain rfl : k = rs.length := by omega
        rw [List.take_length] at hO hll
        obtain ⟨L, hL⟩ : ∃ L, L = [91, 94] ++ rangesT rs := ⟨_, rfl⟩
        rw [← hL] at hO hll HTX
        clear hL hR
        have hszr : w.heap.size ≤ wr.heap.size := hB.out.size
        have hconv : ∀ (g c : Nat) (w' : World), w'.ownsRow w.heap.size 5 1 (.slice (some ⟨g, 0, none⟩) (L.length + 1) c) (L.length + 1) (L.map byteV ++ [.int .u8 93]) → (convert 23 9 (.slice (some ⟨g, 0, none⟩) (L.length + 1) c)).run Tryd.prog w' = .ok (.string (bytesStr (L ++ [93]))) w' := by
          intro g c w' ho
          have e2 : L.map byteV ++ [.int .u8 93] = (L ++ [93]).map byteV := by simp [byteV]
          rw [e2] at ho
          exact conv_own g c w' (L ++ [93]) (L.length + 1) (by simp) ho
        go_wp2_with (at_builtin; refine wpList_append_own _ rfl _ _ 23 rfl w.heap.size 5 i0 (.int .u8 0) 1 1 Tryd.underlying23 hi hz0 hz1 hz2 rfl (by decide) _ _ _ rfl (hO.out.alloc _) ⟨wr.heap.size, 0, none⟩ 1 1 [.int .u8 93] rfl rfl (cell_one_new _ _ _) (by simp [Value.oneCell']) (by unfold maxLen; omega) (by omega) (by simp; omega) ?_; intro v4 w4 hown4 hgrow _; obtain ⟨g4, c4, rfl⟩ := ownsRow_succ hown4; have hcv := hconv g4 c4 w4 hown4)
        have hf4 := own_fin (hO.out.alloc _) ((Lib.OthersKept.refl 5 none wr).alloc _) ((Below.refl w.heap.size wr).alloc hszr _) hszr hgrow
        go_ret
        exact ⟨by rw [HTX.out]; rfl, hB.out.trans hf4.2⟩
  · have hN' : ¬ (128 : Int) < N := by omega
    have HTX : Hid (TX = [91] ++ rangesT (rngs (bytesL s)) ++ [93]) := Lib.hid (by rw [HT.out, if_neg hN])
    clear HT
    have c0 : w1.cell? ⟨w.heap.size, 0, none⟩ = some (.int .u64 (wdI s 0)) := hA1.out.cell 0
    have c1 : w1.cell? ⟨w.heap.size, 1, none⟩ = some (.int .u64 (wdI s 1)) := hA1.out.cell 1
    have c2 : w1.cell? ⟨w.heap.size, 2, none⟩ = some (.int .u64 (wdI s 2)) := hA1.out.cell 2
    have c3 : w1.cell? ⟨w.heap.size, 3, none⟩ = some (.int .u64 (wdI s 3)) := hA1.out.cell 3
    have HR := Lib.hid (ranges_any s w1 (HG.out.below (Nat.le_refl _) HB1.out))
    have hrl := rngs_length (bytesL s)
    have hbl := length_bytesL s
    have hsm := rngs_small (bytesL s) (fun x hx => ((mem_bytesL s x).1 hx).1)
    obtain ⟨rs, hrs⟩ : ∃ rs, rs = rngs (bytesL s) := ⟨_, rfl⟩
    rw [← hrs] at HR HTX hrl hsm
    have hrl2 : rs.length ≤ 256 := by omega
    clear hrs hrl hbl
    go_wp2_with fail
    refine HR.out.mono ?_
    rintro e w2 ⟨vr, rfl, hown2, _, hB2⟩
    obtain ⟨ar, cr, rfl, _⟩ := owned_rowR hown2
    have hOR := Lib.hid hown2
    have hOL := Lib.hid (own_below hO1.out hB2 (Nat.le_refl _))
    have HB2 := Lib.hid (HB1.out.trans (hB2.mono HB1.out.size))
    clear hown2 hB2 c0 c1 c2 c3 HR hA1 hO1
    go_wp2
    go_loopw [3, 18] (fun q p wr => ∃ (k : Nat), p = .int .i64 k ∧ k ≤ rs.length ∧ Hid (wr.ownsRow w.heap.size 5 1 q ([91] ++ rangesT (rs.take k)).length (([91] ++ rangesT (rs.take k)).map byteV)) ∧ Hid (wr.ownsRow w1.heap.size 26 2 (.slice ar rs.length cr) rs.length (cellsR rs)) ∧ Hid (Below w.heap.size w wr))
      (fun _ p _ => rs.length - (intOf p).toNat)
    case atStart => exact ⟨0, rfl, Nat.zero_le _, by simpa [rangesT, byteV] using hOL, hOR, HB2⟩
    case round =>
      clear hOL hOR HB2
      obtain ⟨k, rfl, hk, hO, hR, hB⟩ := hrel
      have hll : ([91] ++ rangesT (rs.take k)).length ≤ 5000 := by
        have h1 := rangesT_len (rs.take k)
        rw [List.length_take] at h1
        simp only [List.length_append, List.length_cons, List.length_nil]
        omega
      by_cases hlt : k < rs.length
      · have HX : Hid (rs[k]? = some rs[k]) := Lib.hid (List.getElem?_eq_getElem hlt)
        obtain ⟨x1, x2⟩ := hsm rs[k] (List.getElem_mem hlt)
        obtain ⟨x, hx⟩ : ∃ x, rs[k] = x := ⟨_, rfl⟩
        rw [hx] at HX x1 x2
        have HL : Hid (([91] ++ rangesT (rs.take k)) ++ rangeT x = [91] ++ rangesT (rs.take (k + 1))) := by
          refine Lib.hid ?_
          rw [List.take_add_one, HX.out]
          show _ = [91] ++ rangesT (rs.take k ++ [x])
          rw [rangesT_snoc, List.append_assoc]
        clear hx
        obtain ⟨f, t⟩ := x
        dsimp only at x1 x2
        obtain ⟨a', cap', hsl, hrow⟩ := owned_rowR hR.out
        cases hsl
        obtain ⟨b, off, rfl, r1, r2⟩ := hrow k _ HX.out
        have HAR := fun (wq : World) (ho : wq.ownsRow w.heap.size 5 1 u3 ([91] ++ rangesT (rs.take k)).length (([91] ++ rangesT (rs.take k)).map byteV)) (hn : w.heap.size ≤ wq.heap.size) => Lib.hid (appendRange_any u3 ([91] ++ rangesT (rs.take k)) (f, t) x1 x2 w.heap.size wq ho hn (by omega))
        have hszr : w.heap.size ≤ wr.heap.size := hB.out.size
        go_wp2_with fail
        refine (HAR _ (hO.out.alloc _) (by simp; omega)).out.mono ?_
        rintro e w3 ⟨v3, rfl, hown3, hk3, hB3⟩
        have hR3 := Lib.hid (own_others (hR.out.alloc (.cells #[.int .u8 f, .int .u8 t] 26)) (by decide) hk3)
        have HB3 := Lib.hid ((hB.out.alloc hB.out.size (.cells #[.int .u8 f, .int .u8 t] 26)).trans hB3)
        rw [HL.out] at hown3
        have hO3 := Lib.hid hown3
        clear hown3 hk3 hB3 HAR hO hR hB r1 r2
        go_wp2
        go_roundw
        case rel => exact ⟨k + 1, by go_num, by omega, hO3, hR3, HB3⟩
        case measure => simp [intOf]; omega
      · obtain rfl : k = rs.length := by omega
        rw [List.take_length] at hO hll
        obtain ⟨L, hL⟩ : ∃ L, L = [91] ++ rangesT rs := ⟨_, rfl⟩
        rw [← hL] at hO hll HTX
        clear hL hR
        have hszr : w.heap.size ≤ wr.heap.size := hB.out.size
        have hconv : ∀ (g c : Nat) (w' : World), w'.ownsRow w.heap.size 5 1 (.slice (some ⟨g, 0, none⟩) (L.length + 1) c) (L.length + 1) (L.map byteV ++ [.int .u8 93]) → (convert 23 9 (.slice (some ⟨g, 0, none⟩) (L.length + 1) c)).run Tryd.prog w' = .ok (.string (bytesStr (L ++ [93]))) w' := by
          intro g c w' ho
          have e2 : L.map byteV ++ [.int .u8 93] = (L ++ [93]).map byteV := by simp [byteV]
          rw [e2] at ho
          exact conv_own g c w' (L ++ [93]) (L.length + 1) (by simp) ho
        go_wp2_with (at_builtin; refine wpList_append_own _ rfl _ _ 23 rfl w.heap.size 5 i0 (.int .u8 0) 1 1 Tryd.underlying23 hi hz0 hz1 hz2 rfl (by decide) _ _ _ rfl (hO.out.alloc _) ⟨wr.heap.size, 0, none⟩ 1 1 [.int .u8 93] rfl rfl (cell_one_new _ _ _) (by simp [Value.oneCell']) (by unfold maxLen; omega) (by omega) (by simp; omega) ?_; intro v4 w4 hown4 hgrow _; obtain ⟨g4, c4, rfl⟩ := ownsRow_succ hown4; have hcv := hconv g4 c4 w4 hown4)
        have hf4 := own_fin (hO.out.alloc _) ((Lib.OthersKept.refl 5 none wr).alloc _) ((Below.refl w.heap.size wr).alloc hszr _) hszr hgrow
        go_ret
        exact ⟨by rw [HTX.out]; rfl, hB.out.trans hf4.2⟩
end Go.Proofs.YtegmoeeeomjkgaaDoor
end
section
namespace Go.Vals
open Go

/-- The values laid into an act's slots, one behind another. -/
def putL : Array Value → List (Option Tmp) → List Value → Array Value
  | s, some d :: ds, v :: vs => putL (s.setIfInBounds d v) ds vs
  | s, none :: ds, _ :: vs => putL s ds vs
  | s, _, _ => s

theorem putL_size : ∀ (ds : List (Option Tmp)) (vs : List Value) (s : Array Value), (putL s ds vs).size = s.size
  | [], _, _ => rfl
  | _ :: _, [], s => by unfold putL; split <;> simp_all
  | some d :: ds, v :: vs, s => by simp only [putL]; rw [putL_size ds vs]; simp
  | none :: ds, v :: vs, s => by simp only [putL]; rw [putL_size ds vs]

theorem putL_off {t : Tmp} : ∀ (ds : List (Option Tmp)) (vs : List Value) (s : Array Value), some t ∉ ds → (putL s ds vs)[t]? = s[t]?
  | [], _, _, _ => rfl
  | _ :: _, [], s, _ => by unfold putL; split <;> simp_all
  | some d :: ds, v :: vs, s, h => by
    simp only [putL]
    rw [putL_off ds vs _ (fun hm => h (List.mem_cons_of_mem _ hm)), Array.getElem?_setIfInBounds_ne (fun e => h (by subst e; simp))]
  | none :: ds, v :: vs, s, h => by
    simp only [putL]
    exact putL_off ds vs _ (fun hm => h (List.mem_cons_of_mem _ hm))

/-- What a region's slots hold: the loose ones meet p, the others are F's. -/
def Kn (F : Array Value) (loose : List Tmp) (p : Tmp → Value → World → Prop) (t : Tmp) (v : Value) (w : World) : Prop :=
  (t ∈ loose ∧ p t v w) ∨ (t ∉ loose ∧ F[t]? = some v)

def Knows (K : Tmp → Value → World → Prop) (l : List Tmp) (a : Act) (w : World) : Prop := ∀ t ∈ l, ∃ v, a.tmps[t]? = some v ∧ K t v w
def Puts (K : Tmp → Value → World → Prop) (o : Oper) (v : Value) (w : World) : Prop := ∀ d, o.dst = some d → K d v w

/-- What becomes of an operation: it gives a value of its kind, the worlds being related. -/
def Gives (P : Program) (N : World → World → Prop) (K : Tmp → Value → World → Prop) (o : Oper) (w : World) : Result Next → Prop
  | .ok (.value u) w' => N w w' ∧ Puts K o u w'
  | .ok (.enter f args) w' => Calls P f args w' fun e w'' => ∃ u, e = .returned u ∧ N w w'' ∧ Puts K o u w''
  | _ => False

def Does (P : Program) (ops : Array Oper) (N : World → World → Prop) (K : Tmp → Value → World → Prop) (o : Oper) (a : Act) (w : World) : Prop :=
  (Region.wanted o (yielded ops a.tmps) = false ∧ Puts K o undef w) ∨
  (Region.wanted o (yielded ops a.tmps) = true ∧ Gives P N K o w ((execOp a.eval o).run P w))

section
variable {P : Program} {ops : Array Oper} {Q : Exit → Act → World → Prop} {md : Region.Mode} {N : World → World → Prop} {K : Tmp → Value → World → Prop}

theorem Does.wpOp {i : Nat} {o : Oper} {a : Act} {w : World} (hi : ops[i]? = some o) (hr : N w w) (h : Does P ops N K o a w)
    {R : Act → World → Prop} (hR : ∀ u w', N w w' → Puts K o u w' → R (a.put o.dst u) w') : wpOp P ops Q i R a w := by
  unfold Go.wpOp
  simp only [hi]
  rcases h with ⟨hw, hp⟩ | ⟨hw, hg⟩
  · simp only [hw, Bool.false_eq_true, if_false]; exact hR _ _ hr hp
  · simp only [hw, if_true]
    refine .inl ?_
    unfold Oper.wp
    generalize (execOp a.eval o).run P w = r at hg
    unfold Gives at hg
    split at hg
    · exact hR _ _ hg.1 hg.2
    · refine Calls.mono hg fun e w'' he => ?_
      obtain ⟨u, rfl, h1, h2⟩ := he
      exact hR _ _ h1 h2
    · exact hg.elim

/-- The region's own conditions: every edge goes back; every slot is written once; what is looked at is waited for. -/
def ck (md : Region.Mode) (ops : Array Oper) (loose : List Tmp) : Bool :=
  Region.noSelect ops && (List.range ops.size).all fun j => match ops[j]? with
    | none => true
    | some o =>
      (o.after.all fun e => decide (e.on < j)) &&
      (List.range ops.size).all fun i => match ops[i]? with
        | none => true
        | some x => match x.dst with
          | none => true
          | some d => (i == j || o.dst != some d) && (!((o.looksAt ops).contains d) || o.after.any fun e => Region.binds md e && e.on == i)

theorem ck_spec {loose : List Tmp} (h : ck md ops loose = true) :
    (∀ (j : Nat) (o : Oper) cs b, ops[j]? = some o → o.op ≠ .select cs b) ∧
    (∀ (j : Nat) (o : Oper), ops[j]? = some o → ∀ e ∈ o.after, e.on < j) ∧
    (∀ (j : Nat) (o : Oper) (i : Nat) (x : Oper) (d : Tmp), ops[j]? = some o → ops[i]? = some x → x.dst = some d → i ≠ j → o.dst ≠ some d) ∧
    (∀ (j : Nat) (o : Oper) (i : Nat) (x : Oper) (d : Tmp), ops[j]? = some o → ops[i]? = some x → x.dst = some d → d ∈ o.looksAt ops → ∃ e ∈ o.after, Region.binds md e = true ∧ e.on = i) := by
  unfold ck at h
  rw [Bool.and_eq_true] at h
  obtain ⟨hs, h⟩ := h
  rw [List.all_eq_true] at h
  have hj : ∀ (j : Nat) (o : Oper), ops[j]? = some o → (∀ e ∈ o.after, e.on < j) ∧ ∀ (i : Nat) (x : Oper) (d : Tmp), ops[i]? = some x → x.dst = some d → (i ≠ j → o.dst ≠ some d) ∧ (d ∈ o.looksAt ops → ∃ e ∈ o.after, Region.binds md e = true ∧ e.on = i) := by
    intro j o ho
    have hlt : j < ops.size := (Array.getElem?_eq_some_iff.1 ho).1
    have := h j (by simpa using hlt)
    simp only [ho, Bool.and_eq_true] at this
    obtain ⟨h1, h2⟩ := this
    refine ⟨fun e he => by simpa using (Array.all_eq_true_iff_forall_mem.1 h1) e he, fun i x d hi hx => ?_⟩
    have hlt' : i < ops.size := (Array.getElem?_eq_some_iff.1 hi).1
    rw [List.all_eq_true] at h2
    have := h2 i (by simpa using hlt')
    simp only [hi, hx, Bool.and_eq_true, Bool.or_eq_true] at this
    obtain ⟨h3, h4⟩ := this
    refine ⟨fun hne => ?_, fun hm => ?_⟩
    · rcases h3 with h3 | h3
      · exact absurd (by simpa using h3) hne
      · simpa using h3
    · rcases h4 with h4 | h4
      · simp [hm] at h4
      · rw [Array.any_eq_true'] at h4
        obtain ⟨e, he, h5⟩ := h4
        rw [Bool.and_eq_true] at h5
        exact ⟨e, he, h5.1, by simpa using h5.2⟩
  exact ⟨Region.noSelect_spec hs, fun j o ho => (hj j o ho).1, fun j o i x d ho hi hx => ((hj j o ho).2 i x d hi hx).1, fun j o i x d ho hi hx => ((hj j o ho).2 i x d hi hx).2⟩

/-- No operation that has not come up writes t. -/
def Settled (ops : Array Oper) (listed : Array Bool) (t : Tmp) : Prop := ∀ (j : Nat) (o : Oper), ops[j]? = some o → o.dst = some t → listed.getD j true = true

def left (ops : Array Oper) (listed : Array Bool) : Nat := (List.range ops.size).countP fun j => !listed.getD j true

theorem countP_lt {α : Type} {p q : α → Bool} : ∀ {l : List α} {x : α}, (∀ y ∈ l, q y = true → p y = true) → x ∈ l → p x = true → q x = false → l.countP q < l.countP p
  | [], _, _, hx, _, _ => by cases hx
  | y :: l, x, h, hx, hp, hq => by
    have hle : l.countP q ≤ l.countP p := List.countP_mono_left fun z hz => h z (List.mem_cons_of_mem _ hz)
    rcases List.mem_cons.1 hx with rfl | hx
    · rw [List.countP_cons_of_pos hp, List.countP_cons_of_neg (by simp [hq])]; omega
    · have ih := countP_lt (fun z hz => h z (List.mem_cons_of_mem _ hz)) hx hp hq
      have h0 := h y List.mem_cons_self
      rw [List.countP_cons, List.countP_cons]
      cases hqy : q y
      · simp; omega
      · simp [h0 hqy]; exact ih

theorem listed_all {listed : Array Bool} (hlt : ∀ (j : Nat) (o : Oper), ops[j]? = some o → ∀ e ∈ o.after, e.on < j) (hsz : listed.size = ops.size)
    (hr : Region.ready md ops listed = []) : ∀ (j : Nat) (o : Oper), ops[j]? = some o → listed.getD j true = true := by
  intro j
  induction j using Nat.strongRecOn with
  | _ j ih =>
    intro o ho
    cases hl : listed.getD j true with
    | true => rfl
    | false =>
      have : j ∈ Region.ready md ops listed := by
        rw [mem_ready]
        refine ⟨hl, o, ho, fun e he _ => ?_⟩
        have h1 := hlt j o ho e he
        have hj : j < ops.size := (Array.getElem?_eq_some_iff.1 ho).1
        have hs : e.on < ops.size := by omega
        have := ih e.on h1 ops[e.on] (by simp [hs])
        have hs' : e.on < listed.size := by omega
        simpa [hs'] using this
      rw [hr] at this
      cases this

theorem wpAny_vals {S : World → Prop} (hsel : ∀ (j : Nat) (o : Oper) cs b, ops[j]? = some o → o.op ≠ .select cs b)
    (hlt : ∀ (j : Nat) (o : Oper), ops[j]? = some o → ∀ e ∈ o.after, e.on < j)
    (hone : ∀ (j : Nat) (o : Oper) (i : Nat) (x : Oper) (d : Tmp), ops[j]? = some o → ops[i]? = some x → x.dst = some d → i ≠ j → o.dst ≠ some d)
    (hlook : ∀ (j : Nat) (o : Oper) (i : Nat) (x : Oper) (d : Tmp), ops[j]? = some o → ops[i]? = some x → x.dst = some d → d ∈ o.looksAt ops → ∃ e ∈ o.after, Region.binds md e = true ∧ e.on = i)
    (n : Nat) (ds : List Deferred) (hin : ∀ (j : Nat) (o : Oper), ops[j]? = some o → (∀ d, o.dst = some d → d < n) ∧ ∀ t ∈ o.looksAt ops, t < n)
    (hN : ∀ w, N w w) (hSN : ∀ w w', S w → N w w' → S w') (hKN : ∀ t v w w', K t v w → N w w' → K t v w')
    (hall : ∀ (j : Nat) (o : Oper), ops[j]? = some o → ∀ a w, a.defers = ds → S w → Knows K (o.looksAt ops) a w → Does P ops N K o a w)
    (hQ : ∀ a w, a.tmps.size = n → a.defers = ds → S w → (∀ t < n, ∃ v, a.tmps[t]? = some v ∧ K t v w) → Q .normal a w) :
    ∀ (fuel : Nat) (listed : Array Bool) (a : Act) (w : World), listed.size = ops.size → left ops listed ≤ fuel → a.tmps.size = n → a.defers = ds → S w →
      (∀ t < n, Settled ops listed t → ∃ v, a.tmps[t]? = some v ∧ K t v w) → wpAny P md ops Q fuel listed a w := by
  intro fuel
  have fin : ∀ (listed : Array Bool) (a : Act) (w : World), listed.size = ops.size → a.tmps.size = n → a.defers = ds → S w →
      (∀ t < n, Settled ops listed t → ∃ v, a.tmps[t]? = some v ∧ K t v w) → Region.ready md ops listed = [] → Q .normal a w := by
    intro listed a w hsz hn hd hS hk hr
    have hl := listed_all hlt hsz hr
    exact hQ a w hn hd hS fun t ht => hk t ht fun j o ho _ => hl j o ho
  induction fuel with
  | zero =>
    intro listed a w hsz hleft hn hd hS hk
    have hr : Region.ready md ops listed = [] := by
      rw [List.eq_nil_iff_forall_not_mem]
      intro j hj
      obtain ⟨h0, o, ho, _⟩ := mem_ready.1 hj
      have hlt' : j < ops.size := (Array.getElem?_eq_some_iff.1 ho).1
      have : 0 < left ops listed := List.countP_pos_iff.2 ⟨j, by simpa using hlt', by simp [h0]⟩
      omega
    exact ⟨hr, fin listed a w hsz hn hd hS hk hr⟩
  | succ fuel ih =>
    intro listed a w hsz hleft hn hd hS hk
    refine ⟨fun hr => fin listed a w hsz hn hd hS hk hr, fun i hi => ?_⟩
    obtain ⟨h0, o, ho, hdep⟩ := mem_ready.1 hi
    have hilt : i < ops.size := (Array.getElem?_eq_some_iff.1 ho).1
    have hknow : Knows K (o.looksAt ops) a w := by
      intro t ht
      refine hk t ((hin i o ho).2 t ht) fun j x hx hxd => ?_
      obtain ⟨e, he, hb, rfl⟩ := hlook i o j x t ho hx hxd ht
      have h1 := hdep e he hb
      have hj : e.on < ops.size := (Array.getElem?_eq_some_iff.1 hx).1
      have hj' : e.on < listed.size := by omega
      simpa [hj'] using h1
    refine (hall i o ho a w hd hS hknow).wpOp ho (hN w) fun u w' hw' hp => ?_
    refine ih _ _ _ (by simpa using hsz) ?_ ?_ ?_ (hSN _ _ hS hw') ?_
    · have : left ops (listed.setIfInBounds i true) < left ops listed := by
        refine countP_lt (x := i) (fun j _ hj => ?_) (by simpa using hilt) (by simp [h0]) (by simp [hsz, hilt])
        by_cases hij : i = j
        · subst hij; simp [hsz, hilt] at hj
        · rw [getD_set_ne true hij] at hj; exact hj
      omega
    · unfold Act.put; split <;> simp [hn]
    · unfold Act.put; split <;> exact hd
    · intro t ht hset
      by_cases hdt : o.dst = some t
      · refine ⟨u, ?_, hp t hdt⟩
        have : t < a.tmps.size := by omega
        simp [Act.put, hdt, this]
      · have hset' : Settled ops listed t := by
          intro j x hx hxd
          by_cases hij : i = j
          · subst hij; rw [ho] at hx; cases hx; exact absurd hxd hdt
          · rw [← getD_set_ne true hij]; exact hset j x hx hxd
        obtain ⟨v, hv, hK⟩ := hk t ht hset'
        refine ⟨v, ?_, hKN _ _ _ _ hK hw'⟩
        cases hod : o.dst with
        | none => simpa [Act.put] using hv
        | some d =>
          have : d ≠ t := fun e => hdt (by rw [hod, e])
          simp only [Act.put]
          rw [Array.getElem?_setIfInBounds_ne this]; exact hv

/-- Slots below n. -/
def below (ops : Array Oper) (n : Nat) : Bool :=
  (List.range ops.size).all fun j => match ops[j]? with
    | none => true
    | some o => (match o.dst with | some d => decide (d < n) | none => true) && (o.looksAt ops).all fun t => decide (t < n)

theorem below_spec {n : Nat} (h : below ops n = true) : ∀ (j : Nat) (o : Oper), ops[j]? = some o → (∀ d, o.dst = some d → d < n) ∧ ∀ t ∈ o.looksAt ops, t < n := by
  intro j o ho
  unfold below at h
  rw [List.all_eq_true] at h
  have hlt : j < ops.size := (Array.getElem?_eq_some_iff.1 ho).1
  have := h j (by simpa using hlt)
  simp only [ho, Bool.and_eq_true] at this
  refine ⟨fun d hd => ?_, fun t ht => ?_⟩
  · have h1 := this.1
    simp only [hd] at h1
    simpa using h1
  · simpa using (List.all_eq_true.1 this.2) t ht

/-- The obligations, one for each operation. -/
def Each (P : Program) (ops : Array Oper) (N : World → World → Prop) (K : Tmp → Value → World → Prop) (S : World → Prop) (ds : List Deferred) : List Oper → Prop
  | [] => True
  | o :: l => (∀ a w, a.defers = ds → S w → Knows K (o.looksAt ops) a w → Does P ops N K o a w) ∧ Each P ops N K S ds l

theorem Each.get {S : World → Prop} {ds : List Deferred} : ∀ {l : List Oper}, Each P ops N K S ds l → ∀ (j : Nat) (o : Oper), l[j]? = some o → ∀ a w, a.defers = ds → S w → Knows K (o.looksAt ops) a w → Does P ops N K o a w
  | [], _, j, o, h => by simp at h
  | x :: l, hE, 0, o, h => by simp at h; subst h; exact hE.1
  | x :: l, hE, j + 1, o, h => by simp at h; exact hE.2.get j o h

theorem left_start : left ops (Array.replicate ops.size false) ≤ ops.size := by
  unfold left
  exact Nat.le_trans List.countP_le_length (by simp)

/-- **A region that draws its order, by the values that its slots hold behind it.** F: every slot's value (the loose ones' are of no account); vs: the operations' values in their text's order. -/
theorem wp_region_vals {id : Nat} {a : Act} {w : World} {S : World → Prop} (loose : List Tmp) (p : Tmp → Value → World → Prop) (vs : List Value) (F : Array Value)
    (hm : P.follows .mixedOrders = true) (hck : ck .any ops loose = true) (hb : below ops a.tmps.size = true)
    (hF : putL a.tmps (ops.toList.map (·.dst)) vs = F)
    (hl : (loose.all fun t => ops.toList.any fun o => o.dst == some t) = true)
    (hN : ∀ w, N w w) (hS : S w.drew) (hSN : ∀ w w', S w → N w w' → S w')
    (hpN : ∀ t ∈ loose, ∀ v w w', p t v w → N w w' → p t v w')
    (hall : Each P ops N (Kn F loose p) S a.defers ops.toList)
    (hQ : ∀ T w', T.size = F.size → S w' → (∀ t < F.size, ∃ v, T[t]? = some v ∧ Kn F loose p t v w') → Q .normal { a with tmps := T } w') : (Code.region id ops true).wp P Q a w := by
  obtain ⟨h1, h2, h3, h4⟩ := ck_spec hck
  have hFs : F.size = a.tmps.size := by rw [← hF, putL_size]
  refine wp_region_any hm (wpAny_vals (K := Kn F loose p) (N := N) (S := S) h1 h2 h3 h4 a.tmps.size a.defers (below_spec hb) hN hSN ?_ ?_ ?_ ops.size _ a _ (by simp) left_start rfl rfl hS ?_)
  · rintro t v w w' (⟨hm, hp⟩ | ⟨hm, hp⟩) hw
    · exact .inl ⟨hm, hpN t hm v w w' hp hw⟩
    · exact .inr ⟨hm, hp⟩
  · intro j o ho a' w' hd hS' hK
    exact hall.get j o (by simpa using ho) a' w' hd hS' hK
  · intro a' w' hn hd hS' hk
    have := hQ a'.tmps w' (by rw [hn, hFs]) hS' (by rw [hFs]; exact hk)
    rw [← hd] at this
    exact this
  · intro t ht hset
    have hnd : some t ∉ ops.toList.map (·.dst) := by
      intro hm
      obtain ⟨o, ho, hod⟩ := List.mem_map.1 hm
      obtain ⟨j, hj⟩ := List.mem_iff_getElem?.1 ho
      have hj' : ops[j]? = some o := by simpa using hj
      have h5 := hset j o hj' hod
      have hlt : j < ops.size := (Array.getElem?_eq_some_iff.1 hj').1
      simp [hlt] at h5
    refine ⟨a.tmps[t], by simp [ht], .inr ⟨fun hm => ?_, ?_⟩⟩
    · rw [List.all_eq_true] at hl
      have := hl t hm
      rw [List.any_eq_true] at this
      obtain ⟨o, ho, hod⟩ := this
      exact hnd (List.mem_map.2 ⟨o, ho, by simpa using hod⟩)
    · rw [← hF, putL_off _ _ _ hnd]; simp [ht]

/-- None loose: the act behind the region is known whole. -/
theorem wp_region_vals0 {id : Nat} {a : Act} {w : World} {S : World → Prop} (vs : List Value) (F : Array Value)
    (hm : P.follows .mixedOrders = true) (hck : ck .any ops [] = true) (hb : below ops a.tmps.size = true)
    (hF : putL a.tmps (ops.toList.map (·.dst)) vs = F)
    (hN : ∀ w, N w w) (hS : S w.drew) (hSN : ∀ w w', S w → N w w' → S w')
    (hall : Each P ops N (Kn F [] fun _ _ _ => False) S a.defers ops.toList)
    (hQ : ∀ w', S w' → Q .normal { a with tmps := F } w') : (Code.region id ops true).wp P Q a w := by
  refine wp_region_vals [] (fun _ _ _ => False) vs F hm hck hb hF rfl hN hS hSN (by simp) hall fun T w' hT hS' hk => ?_
  have : T = F := by
    apply Array.ext hT
    intro i h1 h2
    obtain ⟨v, hv, hK⟩ := hk i h2
    rcases hK with ⟨h, _⟩ | ⟨_, hK⟩
    · cases h
    · rw [← hK] at hv; simpa [h1, h2] using hv
  subst this
  exact hQ w' hS'

/-! ### The obligations' moves -/

/-- The operation looks at no loose slot: it is as at F. -/
theorem does_at {F : Array Value} {loose : List Tmp} {p : Tmp → Value → World → Prop} {o : Oper} {a : Act} {w : World} (hs : ∀ cs b, o.op ≠ .select cs b)
    (hl : (o.looksAt ops).all (fun t => !loose.contains t) = true) (hk : Knows (Kn F loose p) (o.looksAt ops) a w)
    (h : Does P ops N (Kn F loose p) o { a with tmps := F } w) : Does P ops N (Kn F loose p) o a w := by
  have hsame : ∀ t ∈ o.looksAt ops, a.tmps[t]? = F[t]? := by
    intro t ht
    obtain ⟨v, hv, hK⟩ := hk t ht
    have h1 := (List.all_eq_true.1 hl) t ht
    rcases hK with ⟨hm, _⟩ | ⟨_, hK⟩
    · simp [hm] at h1
    · rw [hv, hK]
  have he : execOp a.eval o = execOp ({ a with tmps := F } : Act).eval o := by
    refine execOp_congr o hs fun x hx => ?_
    cases x with
    | tmp t =>
      have ht : t ∈ o.looksAt ops := List.mem_append_left _ (List.mem_filterMap.2 ⟨.tmp t, by simpa using hx, rfl⟩)
      have := hsame t ht
      simp [Act.eval, this]
    | _ => rfl
  have hw : Region.wanted o (yielded ops a.tmps) = Region.wanted o (yielded ops F) := by
    unfold Region.wanted
    cases hg : o.guard with
    | none => rfl
    | some gw =>
      obtain ⟨g, want⟩ := gw
      have hy : yielded ops a.tmps g = yielded ops F g := by
        unfold yielded
        cases ht : (ops[g]?).bind (·.dst) with
        | none => rfl
        | some t =>
          have := hsame t (by simp [Oper.looksAt, hg, ht])
          simp [this]
      simp only [hy]
  unfold Does at *
  rw [he, hw]
  exact h

theorem puts_at {F : Array Value} {loose : List Tmp} {p : Tmp → Value → World → Prop} {o : Oper} {w : World} {d : Tmp} {v : Value} (hd : o.dst = some d) (hn : loose.contains d = false) (hv : F[d]? = some v) : Puts (Kn F loose p) o v w := by
  intro d' hd'
  rw [hd] at hd'
  cases hd'
  exact .inr ⟨by simpa using hn, hv⟩

def noSel (o : Oper) : Bool := match o.op with | .select .. => false | _ => true
theorem noSel_spec {o : Oper} (h : noSel o = true) : ∀ cs b, o.op ≠ .select cs b := by
  intro cs b e
  simp [noSel, e] at h

section
variable {F : Array Value} {loose : List Tmp} {p : Tmp → Value → World → Prop} {S : World → Prop} {o : Oper} {ds : List Deferred} {l : List Oper} {d : Tmp} {v : Value}

/-- The operation's own conditions, as one Bool: no select; it looks at no loose slot and writes none. -/
def own (ops : Array Oper) (loose : List Tmp) (o : Oper) (d : Tmp) : Bool := noSel o && (o.looksAt ops).all (fun t => !loose.contains t) && (o.dst == some d) && !loose.contains d
theorem own_spec (h : own ops loose o d = true) : (∀ cs b, o.op ≠ .select cs b) ∧ (o.looksAt ops).all (fun t => !loose.contains t) = true ∧ o.dst = some d ∧ loose.contains d = false := by
  unfold own at h
  simp only [Bool.and_eq_true] at h
  exact ⟨noSel_spec h.1.1.1, h.1.1.2, by simpa using h.1.2, by simpa using h.2⟩

/-- It gives v and leaves the world. -/
theorem Each.val (d : Tmp) (v : Value) (ho : own ops loose o d = true) (hw : Region.wanted o (yielded ops F) = true) (hv : F[d]? = some v) (hN : ∀ w, N w w)
    (he : ∀ w, S w → ∀ ds, (execOp (Act.eval ⟨F, ds⟩) o).run P w = .ok (.value v) w) (hr : Each P ops N (Kn F loose p) S ds l) : Each P ops N (Kn F loose p) S ds (o :: l) :=
  have h := own_spec ho
  ⟨fun a w _ hS hk => does_at h.1 h.2.1 hk (.inr ⟨hw, by
    have := he w hS a.defers
    show Gives P N _ o w ((execOp (Act.eval ⟨F, a.defers⟩) o).run P w)
    rw [this]; exact ⟨hN w, puts_at h.2.2.1 h.2.2.2 hv⟩⟩), hr⟩
/-- It is not wanted. -/
theorem Each.off (d : Tmp) (ho : own ops loose o d = true) (hw : Region.wanted o (yielded ops F) = false) (hv : F[d]? = some undef)
    (hr : Each P ops N (Kn F loose p) S ds l) : Each P ops N (Kn F loose p) S ds (o :: l) :=
  have h := own_spec ho
  ⟨fun a w _ hS hk => does_at h.1 h.2.1 hk (.inl ⟨hw, puts_at h.2.2.1 h.2.2.2 hv⟩), hr⟩
/-- It calls. -/
theorem Each.call (d : Tmp) (v : Value) (f : FuncId) (args : Array Value) (ho : own ops loose o d = true) (hw : Region.wanted o (yielded ops F) = true) (hv : F[d]? = some v)
    (he : ∀ w, ∀ ds, (execOp (Act.eval ⟨F, ds⟩) o).run P w = .ok (.enter f args) w) (hc : ∀ w, S w → Calls P f args w fun e w' => e = .returned v ∧ N w w')
    (hr : Each P ops N (Kn F loose p) S ds l) : Each P ops N (Kn F loose p) S ds (o :: l) :=
  have h := own_spec ho
  ⟨fun a w _ hS hk => does_at h.1 h.2.1 hk (.inr ⟨hw, by
    have := he w a.defers
    show Gives P N _ o w ((execOp (Act.eval ⟨F, a.defers⟩) o).run P w)
    rw [this]; exact (hc w hS).mono fun e w' hh => ⟨v, hh.1, hh.2, puts_at h.2.2.1 h.2.2.2 hv⟩⟩), hr⟩
/-- It makes something new, in a loose slot. -/
theorem Each.makes (d : Tmp) (hs : noSel o = true) (hl : (o.looksAt ops).all (fun t => !loose.contains t) = true) (hd : o.dst = some d) (hm : loose.contains d = true) (hw : Region.wanted o (yielded ops F) = true)
    (he : ∀ w, S w → ∀ ds, ∃ v w', (execOp (Act.eval ⟨F, ds⟩) o).run P w = .ok (.value v) w' ∧ N w w' ∧ p d v w') (hr : Each P ops N (Kn F loose p) S ds l) : Each P ops N (Kn F loose p) S ds (o :: l) :=
  ⟨fun a w _ hS hk => does_at (noSel_spec hs) hl hk (.inr ⟨hw, by
    obtain ⟨v, w', this, h1, h2⟩ := he w hS a.defers
    show Gives P N _ o w ((execOp (Act.eval ⟨F, a.defers⟩) o).run P w)
    rw [this]; exact ⟨h1, fun d' hd' => by rw [hd] at hd'; cases hd'; exact .inl ⟨by simpa using hm, h2⟩⟩⟩), hr⟩
/-- The guard's slot is among l. -/
def guardIn (ops : Array Oper) (o : Oper) (l : List Tmp) : Bool := match o.guard with
  | some (g, _) => match (ops[g]?).bind (·.dst) with | some d => l.contains d | none => true
  | none => true
theorem wanted_same {l : List Tmp} {T : Array Value} (h : guardIn ops o l = true) (hT : ∀ t ∈ l, T[t]? = F[t]?) : Region.wanted o (yielded ops T) = Region.wanted o (yielded ops F) := by
  unfold Region.wanted guardIn at *
  cases hg : o.guard with
  | none => rfl
  | some gw =>
    obtain ⟨g, want⟩ := gw
    have hy : yielded ops T g = yielded ops F g := by
      unfold yielded
      cases ht : (ops[g]?).bind (·.dst) with
      | none => rfl
      | some t =>
        simp only [hg, ht] at h
        have := hT t (by simpa using h)
        simp [this]
    simp only [hy]
/-- A call whose argument is a loose slot. -/
theorem Each.callLoose (d t : Tmp) (v : Value) (f : FuncId) (hd : o.dst = some d) (hm : loose.contains d = false) (hl : o.looksAt ops = t :: (o.looksAt ops).tail) (hlo : loose.contains t = true)
    (hw : Region.wanted o (yielded ops F) = true) (hg : guardIn ops o (o.looksAt ops).tail = true) (hgl : (o.looksAt ops).tail.all (fun t => !loose.contains t) = true) (hv : F[d]? = some v)
    (he : ∀ w a, (execOp (Act.eval a) o).run P w = .ok (.enter f #[a.eval (.tmp t)]) w) (hc : ∀ w x, S w → p t x w → Calls P f #[x] w fun e w' => e = .returned v ∧ N w w')
    (hr : Each P ops N (Kn F loose p) S ds l) : Each P ops N (Kn F loose p) S ds (o :: l) := by
  refine ⟨fun a w _ hS hk => .inr ⟨(wanted_same hg fun t ht => ?_).trans hw, ?_⟩, hr⟩
  · obtain ⟨x, hx, hK⟩ := hk t (by rw [hl]; exact List.mem_cons_of_mem _ ht)
    have h1 := (List.all_eq_true.1 hgl) t ht
    rcases hK with ⟨hm, _⟩ | ⟨_, hK⟩
    · simp [hm] at h1
    · rw [hx, hK]
  · obtain ⟨x, hx, hK⟩ := hk t (by rw [hl]; exact List.mem_cons_self)
    have hp : p t x w := by
      rcases hK with ⟨_, h⟩ | ⟨h, _⟩
      · exact h
      · exact absurd (by simpa using hlo) h
    rw [he, show a.eval (.tmp t) = x by simp [Act.eval, hx]]
    exact (hc w x hS hp).mono fun e w' hh => ⟨v, hh.1, hh.2, puts_at hd hm hv⟩
end
end
end Go.Vals
end
section
namespace Go.Proofs.YtegmoeeeomjkgaaDoor
open Go Go.RowKit

theorem rowB_two {w : World} {B t : Nat} {x y : BS} (h : Blk w B t #[.int .u64 (wdI x 0), .int .u64 (wdI x 1), .int .u64 (wdI x 2), .int .u64 (wdI x 3), .int .u64 (wdI y 0), .int .u64 (wdI y 1), .int .u64 (wdI y 2), .int .u64 (wdI y 3)]) : RowB w (some ⟨B, 0, none⟩) [x, y] := by
  intro i z hz
  have hi := (List.getElem?_eq_some_iff.1 hz).1
  have : i = 0 ∨ i = 1 := by simp at hi; omega
  rcases this with rfl | rfl
  · simp at hz; subst hz
    exact ⟨B, 0, rfl, h.cell 0, h.cell 1, h.cell 2, h.cell 3⟩
  · simp at hz; subst hz
    exact ⟨B, 0, rfl, h.cell 4, h.cell 5, h.cell 6, h.cell 7⟩

theorem rowB_three {w : World} {B t : Nat} {x y z : BS} (h : Blk w B t #[.int .u64 (wdI x 0), .int .u64 (wdI x 1), .int .u64 (wdI x 2), .int .u64 (wdI x 3), .int .u64 (wdI y 0), .int .u64 (wdI y 1), .int .u64 (wdI y 2), .int .u64 (wdI y 3), .int .u64 (wdI z 0), .int .u64 (wdI z 1), .int .u64 (wdI z 2), .int .u64 (wdI z 3)]) : RowB w (some ⟨B, 0, none⟩) [x, y, z] := by
  intro i s hz
  have hi := (List.getElem?_eq_some_iff.1 hz).1
  have : i = 0 ∨ i = 1 ∨ i = 2 := by simp at hi; omega
  rcases this with rfl | rfl | rfl
  · simp at hz; subst hz
    exact ⟨B, 0, rfl, h.cell 0, h.cell 1, h.cell 2, h.cell 3⟩
  · simp at hz; subst hz
    exact ⟨B, 0, rfl, h.cell 4, h.cell 5, h.cell 6, h.cell 7⟩
  · simp at hz; subst hz
    exact ⟨B, 0, rfl, h.cell 8, h.cell 9, h.cell 10, h.cell 11⟩

theorem join_call (x y : BS) (w : World) (n : Nat) (hn : n = w.heap.size) : Calls Tryd.prog 20 #[.slice (some ⟨n, 0, none⟩) 2 2] (w.alloc (.cells #[.int .u64 (wdI x 0), .int .u64 (wdI x 1), .int .u64 (wdI x 2), .int .u64 (wdI x 3), .int .u64 (wdI y 0), .int .u64 (wdI y 1), .int .u64 (wdI y 2), .int .u64 (wdI y 3)] 29)) fun e w' => e = .returned (vset (x ||| y)) ∧ Below w.heap.size w w' := by
  subst hn
  have h := union_any (some ⟨w.heap.size, 0, none⟩) 2 [x, y] _ (rowB_two (Blk.new w 29 _)) (by simp)
  have e : unionL [x, y] = x ||| y := by simp [unionL]
  rw [e] at h
  exact h.mono fun _ _ ⟨a, b⟩ => ⟨a, ((Below.refl _ w).alloc (Nat.le_refl _) _).trans (b.mono (by simp))⟩

theorem join3_call (x y z : BS) (w : World) (n : Nat) (hn : n = w.heap.size) : Calls Tryd.prog 20 #[.slice (some ⟨n, 0, none⟩) 3 3] (w.alloc (.cells #[.int .u64 (wdI x 0), .int .u64 (wdI x 1), .int .u64 (wdI x 2), .int .u64 (wdI x 3), .int .u64 (wdI y 0), .int .u64 (wdI y 1), .int .u64 (wdI y 2), .int .u64 (wdI y 3), .int .u64 (wdI z 0), .int .u64 (wdI z 1), .int .u64 (wdI z 2), .int .u64 (wdI z 3)] 29)) fun e w' => e = .returned (vset (x ||| y ||| z)) ∧ Below w.heap.size w w' := by
  subst hn
  have h := union_any (some ⟨w.heap.size, 0, none⟩) 3 [x, y, z] _ (rowB_three (Blk.new w 29 _)) (by simp)
  have e : unionL [x, y, z] = x ||| y ||| z := by simp [unionL]
  rw [e] at h
  exact h.mono fun _ _ ⟨a, b⟩ => ⟨a, ((Below.refl _ w).alloc (Nat.le_refl _) _).trans (b.mono (by simp))⟩

set_option maxRecDepth 100000 in
set_option maxHeartbeats 2000000 in
theorem join_any (x y : BS) (w : World) : Calls Tryd.prog 40 #[vset x, vset y] w fun e w' => e = .returned (vset (x ||| y)) ∧ Below w.heap.size w w' := by
  have HJ := fun w' n hn => Lib.hid (join_call x y w' n hn)
  obtain ⟨u, hu⟩ : ∃ u, u = x ||| y := ⟨_, rfl⟩
  rw [← hu] at HJ ⊢
  clear hu
  unfold vset
  go_enter Tryd.func40, Tryd.ntmps40
  go_wp2_with fail
  refine (HJ _ _ (by simp)).out.mono ?_
  rintro e w1 ⟨rfl, hB⟩
  have hz0 := Blk.new ((w.alloc (.cells (cset x) 29)).alloc (.cells (cset y) 29)) 29 zcs
  have hz1 := hz0.below hB (by simp)
  rw [World.size_alloc, World.size_alloc] at hz1
  have z0 : w1.cell? ⟨w.heap.size + 1 + 1, 0, none⟩ = some (.int .u64 0) := hz1.cell 0
  have z1 : w1.cell? ⟨w.heap.size + 1 + 1, 1, none⟩ = some (.int .u64 0) := hz1.cell 1
  have z2 : w1.cell? ⟨w.heap.size + 1 + 1, 2, none⟩ = some (.int .u64 0) := hz1.cell 2
  have z3 : w1.cell? ⟨w.heap.size + 1 + 1, 3, none⟩ = some (.int .u64 0) := hz1.cell 3
  have fz : ∀ i, w1.frozen? ⟨w.heap.size + 1 + 1, i, none⟩ = false := hz1.frozen
  have HZ1 := Lib.hid hz1
  have HB := Lib.hid (((((Below.refl _ w).alloc (Nat.le_refl _) (.cells (cset x) 29)).alloc (by simp) (.cells (cset y) 29)).alloc (by simp; omega) (.cells zcs 29)).trans (hB.mono (by simp; omega)))
  clear hz0 hz1 hB HJ
  unfold vset
  go_wp2
  have hb2 := Blk.set4 HZ1.out (.int .u64 (wdI u 0)) (.int .u64 (wdI u 1)) (.int .u64 (wdI u 2)) (.int .u64 (wdI u 3))
  have d0 := hb2.cell 0
  have d1 := hb2.cell 1
  have d2 := hb2.cell 2
  have d3 := hb2.cell 3
  refine bodyPost_ret (v := .agg #[.int .u64 (wdI u 0), .int .u64 (wdI u 1), .int .u64 (wdI u 2), .int .u64 (wdI u 3)]) (by simp [results, Tryd.results40, go_sem, d0, d1, d2, d3]) rfl ⟨rfl, ?_⟩
  exact below_set4 HB.out (by omega) _ _ _ _
end Go.Proofs.YtegmoeeeomjkgaaDoor
end
section
namespace Go.Proofs.YtegmoeeeomjkgaaDoor
open Go Go.RowKit

/-- What a byte at a text's beginning is, and how long it stands there. -/
def byteB : List UInt8 → Nat × Nat
  | [] => (0, 0)
  | c :: r => if c.toNat = 92 then escB (c :: r) else if 32 ≤ c.toNat ∧ c.toNat ≤ 126 ∧ signB c.toNat = false then (c.toNat, 1) else (0, 0)

theorem list_empty (s : ByteArray) : s.size = 0 ↔ s.data.toList = [] := by
  rw [Lib.size_eq, List.length_eq_zero_iff]

theorem isEmpty_of (s : ByteArray) (h : s.size = 0) : s.toList.isEmpty = true := by
  rw [← decide_eq_emptyBytes]
  refine decide_eq_true ?_
  cases s with
  | mk a => exact congrArg ByteArray.mk (Array.eq_empty_of_size_eq_zero h)
theorem isEmpty_not (s : ByteArray) (h : s.size ≠ 0) : s.toList.isEmpty = false := by
  rw [← decide_eq_emptyBytes]
  exact decide_eq_false (fun e => h (by rw [e]; rfl))

set_option maxRecDepth 100000 in
set_option maxHeartbeats 4000000 in
theorem readByte_any (s : ByteArray) (hs : s.size ≤ 140737488351232) (w : World) (hG : Glob w) :
    Calls Tryd.prog 62 #[.string s] w fun e w' => e = .returned (.tuple #[.int .u8 (byteB s.data.toList).1, .int .i64 (byteB s.data.toList).2]) ∧ Below w.heap.size w w' := by
  have HR := Lib.hid (readEscape_any s hs w hG)
  clear hG
  by_cases h0 : s.size = 0
  · have hE : byteB s.data.toList = (0, 0) := by rw [(list_empty s).1 h0]; rfl
    have hem := isEmpty_of s h0
    rw [hE]
    go_enter Tryd.func62, Tryd.ntmps62
    go_wp2
    go_ret2
    exact ⟨rfl, Below.refl _ _⟩
  · have hem := isEmpty_not s h0
    obtain ⟨b, hb⟩ : ∃ b, b = (s[0]'(by omega)).toNat := ⟨_, rfl⟩
    have hb256 : b < 256 := by rw [hb]; exact (s[0]'(by omega)).toNat_lt
    have hi : ∀ h, (s[0]'h).toNat = b := fun h => hb.symm
    have HE : Hid (byteB s.data.toList = if b = 92 then escB s.data.toList else if 32 ≤ b ∧ b ≤ 126 ∧ signB b = false then (b, 1) else (0, 0)) := by
      refine Lib.hid ?_
      have hl : ∃ x r, s.data.toList = x :: r := by
        have : s.data.toList ≠ [] := fun e => h0 ((list_empty s).2 e)
        match s.data.toList, this with
        | x :: r, _ => exact ⟨x, r, rfl⟩
      obtain ⟨x, r, hl⟩ := hl
      have hy : b = x.toNat := by
        rw [hb]
        show (s.data[0]'_).toNat = _
        rw [← Array.getElem_toList]
        simp [hl]
      rw [hl, hy]
      rfl
    clear hb
    have HS := fun w' => Lib.hid (isSign_any b hb256 w')
    have hpos : (0 : Int) < s.size := by omega
    by_cases c1 : b = 92
    · have hE : byteB s.data.toList = escB s.data.toList := by rw [HE.out, if_pos c1]
      rw [hE]
      clear HE hE
      obtain ⟨q, hq⟩ : ∃ q, q = escB s.data.toList := ⟨_, rfl⟩
      rw [← hq] at HR ⊢
      clear hq
      obtain ⟨q1, q2⟩ := q
      subst c1
      go_enter Tryd.func62, Tryd.ntmps62
      go_wp2_with (go_at_call 70; refine HR.out.mono ?_; rintro e w1 ⟨rfl, hB⟩)
      go_ret2
      exact ⟨rfl, by assumption⟩
    · have d1 : ¬ (b : Int) = 92 := by omega
      have hE : byteB s.data.toList = if 32 ≤ b ∧ b ≤ 126 ∧ signB b = false then (b, 1) else (0, 0) := by rw [HE.out, if_neg c1]
      rw [hE]
      clear HE hE HR
      by_cases c2 : 32 ≤ b
      · by_cases c3 : b ≤ 126
        · cases hsg : signB b with
          | true =>
            rw [if_neg (by simp)]
            go_enter Tryd.func62, Tryd.ntmps62
            go_wp2_with (go_at_call 71; refine (HS _).out.mono ?_; rintro e w' ⟨rfl, rfl⟩)
            go_ret2
            exact ⟨rfl, Below.refl _ _⟩
          | false =>
            rw [if_pos ⟨c2, c3, rfl⟩]
            go_enter Tryd.func62, Tryd.ntmps62
            go_wp2_with (go_at_call 71; refine (HS _).out.mono ?_; rintro e w' ⟨rfl, rfl⟩)
            go_ret2
            exact ⟨rfl, Below.refl _ _⟩
        · rw [if_neg (fun h => c3 h.2.1)]
          go_enter Tryd.func62, Tryd.ntmps62
          go_wp2
          go_ret2
          exact ⟨rfl, Below.refl _ _⟩
      · rw [if_neg (fun h => c2 h.1)]
        go_enter Tryd.func62, Tryd.ntmps62
        go_wp2
        go_ret2
        exact ⟨rfl, Below.refl _ _⟩

theorem escB_lt (l : List UInt8) : (escB l).1 < 256 ∧ (escB l).2 ≤ l.length := by
  unfold escB
  split
  · rename_i b r
    have := b.toNat_lt
    split
    · exact ⟨by decide, by simp⟩
    · split
      · exact ⟨by decide, by simp⟩
      · split
        · exact ⟨by decide, by simp⟩
        · split
          · exact ⟨this, by simp⟩
          · split
            · rename_i h
              split
              · exact ⟨Nat.mod_lt _ (by omega), by simp; omega⟩
              · exact ⟨by decide, by simp⟩
            · exact ⟨by decide, by simp⟩
  · exact ⟨by decide, by simp⟩

theorem byteB_lt (l : List UInt8) : (byteB l).1 < 256 ∧ (byteB l).2 ≤ l.length := by
  unfold byteB
  split
  · exact ⟨by decide, by simp⟩
  · rename_i c r
    have := c.toNat_lt
    split
    · exact escB_lt _
    · split
      · exact ⟨this, by simp⟩
      · exact ⟨by decide, by simp⟩
end Go.Proofs.YtegmoeeeomjkgaaDoor
end
