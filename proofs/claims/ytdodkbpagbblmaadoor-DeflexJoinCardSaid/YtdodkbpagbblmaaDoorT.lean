import Derived.Lib.AppendStr
import Derived.Lib.OthersKept
import Derived.Lib.OwnKind
import Derived.OwnWalk
import Derived.Deep.AppendLies
import Derived.Deep.RegionLaw
import Derived.Test.YtdodkbpagbblmaaDoorG
import Derived.Test.YtdodkbpagbblmaaDoorJ
import Derived.Test.YtdodkbpagbblmaaDoorH
namespace Go.Proofs.YtdodkbpagbblmaaDoor
open Go Go.RowKit

theorem Tryd.info5 : (Tryd.prog.info? 5).map (fun i => (i.zero, i.size, i.bytes)) = some (some (.int .u8 0), 1, 1) := by kernel_rfl

def byteV (x : Nat) : Value := .int .u8 x
/-- A digit of a byte's escape. -/
def hexC (n : Nat) : Nat := if n < 10 then 48 + n else 87 + n
/-- A byte's text. -/
def byteT (b : Nat) : List Nat :=
  if b = 9 then [92, 116] else if b = 10 then [92, 110] else if b = 13 then [92, 114] else if signB b then [92, b] else if 32 < b ∧ b ≤ 126 then [b] else [92, 120, hexC (b / 16), hexC (b % 16)]

/-- What an append leaves: nothing else has turned. -/
theorem own_fin {w w1 w' : World} {n₀ : Nat} {v : Value} {n : Nat} {xs : List Value} (hown : w1.ownsRow n₀ 5 1 v n xs) (hk : Lib.OthersKept 5 none w w1) (hB : Below n₀ w w1) (hn : n₀ ≤ w.heap.size) (hg : w1.grownBy w' v.ownBlock) :
    Lib.OthersKept 5 none w w' ∧ Below n₀ w w' := by
  refine ⟨hk.grown hg (fun g e => Lib.ownsRow_kind hown g e), hB.grown hg (Nat.le_trans hn hB.size) fun j ej => ?_⟩
  rcases hown.2 with ⟨rfl, _⟩ | ⟨g, cap, cur, rfl, hb, _⟩
  · cases ej
  · obtain rfl : g = j := by simpa [Value.ownBlock] using ej
    exact hb

theorem hex_ix (n : Nat) (h : n < 16) (w : World) : (Instr.index 9 (.string ⟨#[48, 49, 50, 51, 52, 53, 54, 55, 56, 57, 97, 98, 99, 100, 101, 102]⟩) (.int .u8 (n : Int))).run Tryd.prog w = .ok (.int .u8 (hexC n : Nat)) w := by
  rcases (by omega : n = 0 ∨ n = 1 ∨ n = 2 ∨ n = 3 ∨ n = 4 ∨ n = 5 ∨ n = 6 ∨ n = 7 ∨ n = 8 ∨ n = 9 ∨ n = 10 ∨ n = 11 ∨ n = 12 ∨ n = 13 ∨ n = 14 ∨ n = 15) with rfl | rfl | rfl | rfl | rfl | rfl | rfl | rfl | rfl | rfl | rfl | rfl | rfl | rfl | rfl | rfl
  · kernel_rfl
  · kernel_rfl
  · kernel_rfl
  · kernel_rfl
  · kernel_rfl
  · kernel_rfl
  · kernel_rfl
  · kernel_rfl
  · kernel_rfl
  · kernel_rfl
  · kernel_rfl
  · kernel_rfl
  · kernel_rfl
  · kernel_rfl
  · kernel_rfl
  · kernel_rfl

def bytePost (l : List Nat) (n₀ : Nat) (w : World) (e : Ending) (w' : World) : Prop :=
  ∃ v', e = .returned v' ∧ w'.ownsRow n₀ 5 1 v' l.length (l.map byteV) ∧ Lib.OthersKept 5 none w w' ∧ Below n₀ w w'

set_option maxRecDepth 100000 in
set_option maxHeartbeats 4000000 in
theorem appendByte_any (v : Value) (l : List Nat) (b : Nat) (hb : b < 256) (n₀ : Nat) (w : World) (hown : w.ownsRow n₀ 5 1 v l.length (l.map byteV)) (hn : n₀ ≤ w.heap.size) (hl : l.length ≤ 1048576) :
    Calls Tryd.prog 65 #[v, .int .u8 b] w (bytePost (l ++ byteT b) n₀ w) := by
  obtain ⟨i0, hi, hz0, hz1, hz2⟩ := info_parts Tryd.info5
  have HS := fun w' => Lib.hid (isSign_any b hb w')
  have hstr : ∀ (c : Nat) (hc : c < 256), (l ++ [92, c]).length = l.length + 2 ∧ (l ++ [92, c]).map byteV = l.map byteV ++ [.int .u8 92, .int .u8 c] := fun c _ => ⟨by simp, by simp [byteV]⟩
  by_cases c1 : b = 9
  · have hE : byteT b = [92, 116] := by unfold byteT; rw [if_pos c1]
    rw [hE]
    subst c1
    clear hE HS hb
    go_enter Tryd.func65, Tryd.ntmps65
    go_wp2_with (at_builtin; refine Lib.wpList_append_own_string _ rfl _ _ 22 9 rfl n₀ 5 i0 Tryd.underlying22 Tryd.underlying9 hi hz0 hz1 hz2 _ _ _ rfl hown ⟨#[92, 116]⟩ rfl (by show l.length + 2 ≤ maxLen; unfold maxLen; omega) (by show l.length + 2 ≤ _; omega) hn ?_; intro v' w1 hown1 hgrow _)
    go_ret
    obtain ⟨k1, k2⟩ := own_fin hown (Lib.OthersKept.refl 5 none w) (Below.refl n₀ w) hn hgrow
    refine ⟨v', rfl, ?_, k1, k2⟩
    have e1 : (l ++ [92, 116]).length = l.length + 2 := by simp
    have e2 : (l ++ [92, 116]).map byteV = l.map byteV ++ Lib.strCells ⟨#[92, 116]⟩ := by simp [byteV, Lib.strCells]
    rw [e1, e2]; exact hown1
  · by_cases c2 : b = 10
    · have hE : byteT b = [92, 110] := by unfold byteT; rw [if_neg c1, if_pos c2]
      rw [hE]
      subst c2
      clear hE HS hb
      go_enter Tryd.func65, Tryd.ntmps65
      go_wp2_with (at_builtin; refine Lib.wpList_append_own_string _ rfl _ _ 22 9 rfl n₀ 5 i0 Tryd.underlying22 Tryd.underlying9 hi hz0 hz1 hz2 _ _ _ rfl hown ⟨#[92, 110]⟩ rfl (by show l.length + 2 ≤ maxLen; unfold maxLen; omega) (by show l.length + 2 ≤ _; omega) hn ?_; intro v' w1 hown1 hgrow _)
      go_ret
      obtain ⟨k1, k2⟩ := own_fin hown (Lib.OthersKept.refl 5 none w) (Below.refl n₀ w) hn hgrow
      refine ⟨v', rfl, ?_, k1, k2⟩
      have e1 : (l ++ [92, 110]).length = l.length + 2 := by simp
      have e2 : (l ++ [92, 110]).map byteV = l.map byteV ++ Lib.strCells ⟨#[92, 110]⟩ := by simp [byteV, Lib.strCells]
      rw [e1, e2]; exact hown1
    · by_cases c3 : b = 13
      · have hE : byteT b = [92, 114] := by unfold byteT; rw [if_neg c1, if_neg c2, if_pos c3]
        rw [hE]
        subst c3
        clear hE HS hb
        go_enter Tryd.func65, Tryd.ntmps65
        go_wp2_with (at_builtin; refine Lib.wpList_append_own_string _ rfl _ _ 22 9 rfl n₀ 5 i0 Tryd.underlying22 Tryd.underlying9 hi hz0 hz1 hz2 _ _ _ rfl hown ⟨#[92, 114]⟩ rfl (by show l.length + 2 ≤ maxLen; unfold maxLen; omega) (by show l.length + 2 ≤ _; omega) hn ?_; intro v' w1 hown1 hgrow _)
        go_ret
        obtain ⟨k1, k2⟩ := own_fin hown (Lib.OthersKept.refl 5 none w) (Below.refl n₀ w) hn hgrow
        refine ⟨v', rfl, ?_, k1, k2⟩
        have e1 : (l ++ [92, 114]).length = l.length + 2 := by simp
        have e2 : (l ++ [92, 114]).map byteV = l.map byteV ++ Lib.strCells ⟨#[92, 114]⟩ := by simp [byteV, Lib.strCells]
        rw [e1, e2]; exact hown1
      · have d1 : ¬ (b : Int) = 9 := by omega
        have d2 : ¬ (b : Int) = 10 := by omega
        have d3 : ¬ (b : Int) = 13 := by omega
        cases hsg : signB b with
        | true =>
          have hE : byteT b = [92, b] := by unfold byteT; rw [if_neg c1, if_neg c2, if_neg c3, if_pos hsg]
          rw [hE]
          clear hE
          go_enter Tryd.func65, Tryd.ntmps65
          go_wp2_with (first
            | (go_at_call 81; refine (HS _).out.mono ?_; rintro e w' ⟨rfl, rfl⟩)
            | (at_builtin; refine wpList_append_own _ rfl _ _ 22 rfl n₀ 5 i0 (.int .u8 0) 1 1 Tryd.underlying22 hi hz0 hz1 hz2 rfl (by decide) _ _ _ rfl (hown.alloc _) ⟨w.heap.size, 0, none⟩ 2 2 [.int .u8 92, .int .u8 b] rfl rfl (cell_two_new _ _ _ _) (by simp [Value.oneCell']) (by unfold maxLen; omega) (by omega) (by simp; omega) ?_; intro v' w1 hown1 hgrow _))
          go_ret
          obtain ⟨k1, k2⟩ := own_fin (hown.alloc _) ((Lib.OthersKept.refl 5 none w).alloc _) ((Below.refl n₀ w).alloc hn _) hn hgrow
          refine ⟨v', rfl, ?_, k1, k2⟩
          have e1 : (l ++ [92, b]).length = l.length + 2 := by simp
          have e2 : (l ++ [92, b]).map byteV = l.map byteV ++ [.int .u8 92, .int .u8 b] := by simp [byteV]
          rw [e1, e2]; exact hown1
        | false =>
          by_cases c5 : 32 < b ∧ b ≤ 126
          · have hE : byteT b = [b] := by unfold byteT; rw [if_neg c1, if_neg c2, if_neg c3, hsg, if_neg (by simp), if_pos c5]
            rw [hE]
            clear hE
            obtain ⟨c5, c6⟩ := c5
            go_enter Tryd.func65, Tryd.ntmps65
            go_wp2_with (first
              | (go_at_call 81; refine (HS _).out.mono ?_; rintro e w' ⟨rfl, rfl⟩)
              | (at_builtin; refine wpList_append_own _ rfl _ _ 22 rfl n₀ 5 i0 (.int .u8 0) 1 1 Tryd.underlying22 hi hz0 hz1 hz2 rfl (by decide) _ _ _ rfl (hown.alloc _) ⟨w.heap.size, 0, none⟩ 1 1 [.int .u8 b] rfl rfl (cell_one_new _ _ _) (by simp [Value.oneCell']) (by unfold maxLen; omega) (by omega) (by simp; omega) ?_; intro v' w1 hown1 hgrow _))
            go_ret
            obtain ⟨k1, k2⟩ := own_fin (hown.alloc _) ((Lib.OthersKept.refl 5 none w).alloc _) ((Below.refl n₀ w).alloc hn _) hn hgrow
            refine ⟨v', rfl, ?_, k1, k2⟩
            have e1 : (l ++ [b]).length = l.length + 1 := by simp
            have e2 : (l ++ [b]).map byteV = l.map byteV ++ [.int .u8 b] := by simp [byteV]
            rw [e1, e2]; exact hown1
          · have hE : byteT b = [92, 120, hexC (b / 16), hexC (b % 16)] := by unfold byteT; rw [if_neg c1, if_neg c2, if_neg c3, hsg, if_neg (by simp), if_neg c5]
            rw [hE]
            clear hE
            have hI1 : ∀ w', (Instr.index 9 (.string ⟨#[48, 49, 50, 51, 52, 53, 54, 55, 56, 57, 97, 98, 99, 100, 101, 102]⟩) (.int .u8 ((b : Int) / 16))).run Tryd.prog w' = .ok (.int .u8 (hexC (b / 16) : Nat)) w' := by
              rw [show ((b : Int) / 16) = ((b / 16 : Nat) : Int) by omega]; exact hex_ix (b / 16) (by omega)
            have hI2 : ∀ w', (Instr.index 9 (.string ⟨#[48, 49, 50, 51, 52, 53, 54, 55, 56, 57, 97, 98, 99, 100, 101, 102]⟩) (.int .u8 ((b : Int) % 16))).run Tryd.prog w' = .ok (.int .u8 (hexC (b % 16) : Nat)) w' := by
              rw [show ((b : Int) % 16) = ((b % 16 : Nat) : Int) by omega]; exact hex_ix (b % 16) (by omega)
            have hb15 : bits .and .u8 (b : Int) 15 = (b : Int) % 16 := by
              have h := u8_and_nat b 15 hb (by omega)
              rw [and15] at h
              exact h.trans (by omega)
            by_cases c6 : 32 < b
            · have c7 : ¬ b ≤ 126 := fun h => c5 ⟨c6, h⟩
              go_enter Tryd.func65, Tryd.ntmps65
              go_wp2_with (go_at_call 81; refine (HS _).out.mono ?_; rintro e w' ⟨rfl, rfl⟩)
              clear HS hsg
              go_region_law (first | (refine step_append_lies _ (by rfl) _ _ _ (by rfl) n₀ 5 i0 (.int .u8 0) 1 1 Tryd.underlying22 hi hz0 hz1 hz2 rfl (by decide) _ _ _ (by rfl) (hown.alloc (.cells #[.int .u8 92, .int .u8 120, .int .u8 (hexC (b / 16) : Nat), .int .u8 (hexC (b % 16) : Nat)] 5)) ⟨w.heap.size, 0, none⟩ 4 4 [.int .u8 92, .int .u8 120, .int .u8 (hexC (b / 16) : Nat), .int .u8 (hexC (b % 16) : Nat)] (by rfl) (by rfl) (World.news_of_block (cs := #[.int .u8 92, .int .u8 120, .int .u8 (hexC (b / 16) : Nat), .int .u8 (hexC (b % 16) : Nat)]) (Blk.new w 5 _)) (by simp [Value.oneCell']) (by omega) (by unfold maxLen; omega) (by omega) (by simp; omega) _ rfl ?_; intro g cap w1 hown1 hgrow _ _))
              all_goals go_wp2
              all_goals go_ret
              all_goals obtain ⟨k1, k2⟩ := own_fin (w1 := (w.alloc _).drew) (hown.alloc _) ((Lib.OthersKept.refl 5 none w).alloc _).drew ((Below.refl n₀ w).alloc hn _).drew hn hgrow
              all_goals refine ⟨_, rfl, ?_, k1, k2⟩
              all_goals have e1 : (l ++ [92, 120, hexC (b / 16), hexC (b % 16)]).length = l.length + 4 := by simp
              all_goals have e2 : (l ++ [92, 120, hexC (b / 16), hexC (b % 16)]).map byteV = l.map byteV ++ [.int .u8 92, .int .u8 120, .int .u8 (hexC (b / 16) : Nat), .int .u8 (hexC (b % 16) : Nat)] := by simp [byteV]
              all_goals rw [e1, e2]
              all_goals exact hown1
            · go_enter Tryd.func65, Tryd.ntmps65
              go_wp2_with (go_at_call 81; refine (HS _).out.mono ?_; rintro e w' ⟨rfl, rfl⟩)
              clear HS hsg
              go_region_law (first | (refine step_append_lies _ (by rfl) _ _ _ (by rfl) n₀ 5 i0 (.int .u8 0) 1 1 Tryd.underlying22 hi hz0 hz1 hz2 rfl (by decide) _ _ _ (by rfl) (hown.alloc (.cells #[.int .u8 92, .int .u8 120, .int .u8 (hexC (b / 16) : Nat), .int .u8 (hexC (b % 16) : Nat)] 5)) ⟨w.heap.size, 0, none⟩ 4 4 [.int .u8 92, .int .u8 120, .int .u8 (hexC (b / 16) : Nat), .int .u8 (hexC (b % 16) : Nat)] (by rfl) (by rfl) (World.news_of_block (cs := #[.int .u8 92, .int .u8 120, .int .u8 (hexC (b / 16) : Nat), .int .u8 (hexC (b % 16) : Nat)]) (Blk.new w 5 _)) (by simp [Value.oneCell']) (by omega) (by unfold maxLen; omega) (by omega) (by simp; omega) _ rfl ?_; intro g cap w1 hown1 hgrow _ _))
              all_goals go_wp2
              all_goals go_ret
              all_goals obtain ⟨k1, k2⟩ := own_fin (w1 := (w.alloc _).drew) (hown.alloc _) ((Lib.OthersKept.refl 5 none w).alloc _).drew ((Below.refl n₀ w).alloc hn _).drew hn hgrow
              all_goals refine ⟨_, rfl, ?_, k1, k2⟩
              all_goals have e1 : (l ++ [92, 120, hexC (b / 16), hexC (b % 16)]).length = l.length + 4 := by simp
              all_goals have e2 : (l ++ [92, 120, hexC (b / 16), hexC (b % 16)]).map byteV = l.map byteV ++ [.int .u8 92, .int .u8 120, .int .u8 (hexC (b / 16) : Nat), .int .u8 (hexC (b % 16) : Nat)] := by simp [byteV]
              all_goals rw [e1, e2]
              all_goals exact hown1
end Go.Proofs.YtdodkbpagbblmaaDoor
