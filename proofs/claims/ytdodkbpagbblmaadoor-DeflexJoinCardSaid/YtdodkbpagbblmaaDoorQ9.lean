import Derived.Test.YtdodkbpagbblmaaDoorT3
import Derived.Test.YtdodkbpagbblmaaDoorQ8
namespace Go.Proofs.YtdodkbpagbblmaaDoor
open Go Go.RowKit

def TxtP (B : Nat) (t : ByteArray) (k : Nat) (w : World) (v : Option (List Nat × Nat)) (e : Ending) (w' : World) : Prop :=
  w.grownBy w' (some B) ∧ match v with
    | some p => e = .returned (.string (bytesStr p.1)) ∧ Rdr w' B t (k + 1 + p.2)
    | none => e = .panicked gone ∧ Rdr w' B t k

theorem conv_nil (w : World) : (convert 22 9 (.slice none 0 0)).run Tryd.prog w = .ok (.string (bytesStr [])) w := by kernel_rfl
theorem conv_any {n₀ : Nat} (v : Value) (w : World) (l : List Nat) (ho : w.ownsRow n₀ 5 1 v l.length (l.map byteV)) :
    (convert 22 9 v).run Tryd.prog w = .ok (.string (bytesStr l)) w := by
  rcases ho.2 with ⟨rfl, h0⟩ | ⟨g, cap, cur, rfl, _⟩
  · have : l = [] := List.length_eq_zero_iff.1 h0
    subst this
    exact conv_nil w
  · exact conv_own g cap w l l.length rfl ho

theorem ext_list (r : ByteArray) (n : Nat) : (r.extract n r.size).data.toList = r.data.toList.drop n := extract_drop r n

set_option maxRecDepth 100000 in
set_option maxHeartbeats 8000000 in
theorem readText_any (B : Nat) (t : ByteArray) (k : Nat) (ht : t.size ≤ 1048576) (hk : k < t.size) (w : World) (hG : GlobD w) (hB : Rdr w B t k) :
    Calls Tryd.prog 25 #[.pointer (some ⟨B, 0, none⟩)] w (TxtP B t k w (textO (t.data.toList.drop (k + 1)))) := by
  obtain ⟨i0, hi, hz0, hz1, hz2⟩ := info_parts Tryd.info5
  have c0 : w.cell? ⟨B, 0, none⟩ = some (.string t) := hB.cell 0
  have c1 : w.cell? ⟨B, 1, none⟩ = some (.int .i64 (k : Int)) := hB.cell 1
  have hltB := hB.lt
  have n2 : (0 : Int) ≤ (k : Int) := by omega
  have n3 : (k : Int) + 1 ≤ (t.size : Int) := by omega
  have n4 : (0 : Int) ≤ (k : Int) + 1 := by omega
  have hw1 : IntKind.i64.wrap ((k : Int) + 1) = (k : Int) + 1 := IntWalk.i64_in _ (by omega)
  have hw2 : ((k : Int) + 1).toNat = k + 1 := by omega
  have HG := Lib.hid hG
  have HB := Lib.hid hB
  have hls : (t.extract (k + 1) t.size).data.toList = t.data.toList.drop (k + 1) := extract_drop t (k + 1)
  have Hls := Lib.hid hls
  have hO0 : Hid (w.drew.ownsRow w.heap.size 5 1 (.slice none 0 0) ([] : List Nat).length (([] : List Nat).map byteV)) := World.ownsRow_nil _ _ _ _
  have hB0 : Hid (Below w.heap.size w w.drew) := (Below.refl _ w).drew
  clear hG hB hls
  go_enter Tryd.func25, Tryd.ntmps25
  go_wp2
  go_region
  clear hw1 hw2
  go_wp2
  go_loopg [3, 4, 5, 6] (t.size - (k + 1)) (fun n v r x y wr => ∃ (j : Nat) (bs : List Nat) (rs : ByteArray), r = .string rs ∧ k + 1 ≤ j ∧ j ≤ t.size ∧ n = t.size - j ∧ Hid (rs.data.toList = t.data.toList.drop j) ∧ bs.length ≤ j
      ∧ Hid (textO (t.data.toList.drop (k + 1)) = (textO (t.data.toList.drop j)).map fun p => (bs ++ p.1, (j - (k + 1)) + p.2)) ∧ Hid (wr.ownsRow w.heap.size 5 1 v bs.length (bs.map byteV)) ∧ Hid (Below w.heap.size w wr))
  case atStart => exact ⟨k + 1, [], _, rfl, Nat.le_refl _, by omega, rfl, Hls, by simp, Lib.hid (by simp), hO0, hB0⟩
  case round =>
    clear hO0 hB0 Hls
    obtain ⟨j, bs, rs, rfl, hj1, hj2, rfl, hrs, hbs, hT, hO, hB⟩ := hrel
    have hsz : rs.size = t.size - j := by rw [Lib.size_eq, hrs.out, drop_len]
    have HP := Tryd.strings_HasPrefix rs ⟨#[34]⟩
    have hp2 : (⟨#[34]⟩ : ByteArray).data.toList = [34] := rfl
    rw [hp2, hrs.out] at HP
    have hHG := HG.out.below (Nat.le_refl _) hB.out
    have HBy := rdByte_any rs (by omega) wr hHG.base
    rw [hrs.out] at HBy
    cases hpp : Lib.hasPrefix (t.data.toList.drop j) [34] with
    | true =>
      rw [hpp] at HP
      have HP := fun w' => Lib.hid (HP w')
      have HN : Hid (textO (t.data.toList.drop (k + 1)) = some (bs, j - (k + 1) + 1)) := Lib.hid (by rw [hT.out, textO_end _ hpp]; simp)
      have hR := Blk.below HB.out hB.out HB.out.lt
      have r0 : wr.cell? ⟨B, 0, none⟩ = some (.string t) := hR.cell 0
      have r1 : wr.cell? ⟨B, 1, none⟩ = some (.int .i64 (k : Int)) := hR.cell 1
      have rf := hR.frozen 1
      have rl := hR.lt
      have hS := Lib.hid (hR.set 1 (.int .i64 ((j : Int) + 1)))
      have hg := Lib.hid (grown_set (grown_of_below' hB.out (some B)) 1 (.int .i64 ((j : Int) + 1)))
      have HCv := fun W (h : W.ownsRow w.heap.size 5 1 u3 bs.length (bs.map byteV)) => conv_any u3 W bs h
      have hO2 : (wr.setCell ⟨B, 1, none⟩ (.int .i64 ((j : Int) + 1))).ownsRow w.heap.size 5 1 u3 bs.length (bs.map byteV) := by
        refine hO.out.kept (grown_set (grown_of_below' (Below.refl wr.heap.size wr) (some B)) 1 _) (.inr ?_)
        intro e
        have := (hO.out.lt B e).1
        omega
      have hc := HCv _ hO2
      have hsI : (t.size : Int) - (rs.size : Int) = (j : Int) := by omega
      have eN : k + 1 + (j - (k + 1) + 1) = j + 1 := by omega
      have HQ : Hid (TxtP B t k w (textO (t.data.toList.drop (k + 1))) = TxtP B t k w (some (bs, j - (k + 1) + 1))) := Lib.hid (by rw [HN.out])
      have EN := Lib.hid eN
      have n6 : (j : Int) ≤ (t.size : Int) := by omega
      have n7 : (0 : Int) ≤ (j : Int) := by omega
      clear hpp hT hR HN hO2 HCv eN hHG HBy hsz
      go_wp2_with (go_at_call 36; refine (HP _).out.mono ?_; rintro e w' ⟨rfl, rfl⟩)
      go_ret
      show TxtP B t k w (textO (t.data.toList.drop (k + 1))) _ _
      rw [HQ.out]
      exact ⟨hg.out, rfl, by rw [EN.out]; exact hS.out⟩
    | false =>
      rw [hpp] at HP
      have HP := fun w' => Lib.hid (HP w')
      by_cases h0 : (byteD (t.data.toList.drop j)).2 = 0
      · have HN : Hid (textO (t.data.toList.drop (k + 1)) = none) := Lib.hid (by rw [hT.out, textO_bad _ hpp h0]; rfl)
        have HQ : Hid (TxtP B t k w (textO (t.data.toList.drop (k + 1))) = TxtP B t k w none) := Lib.hid (by rw [HN.out])
        rw [h0] at HBy
        have HBy := Lib.hid HBy
        clear hpp hT h0 HN hsz
        go_wp2_with (go_at_call 36; refine (HP _).out.mono ?_; rintro e w' ⟨rfl, rfl⟩)
        refine HBy.out.mono ?_
        rintro e w1 ⟨rfl, hB1⟩
        have hBB := hB.out.trans (hB1.mono hB.out.size)
        have hR := Lib.hid (Blk.below HB.out hBB HB.out.lt)
        have hg := Lib.hid (grown_of_below' hBB (some B))
        clear hB1 hBB HBy
        go_wp2_with (go_at_call 29; refine (giveUp_any _ _).mono ?_; rintro e w' ⟨rfl, rfl⟩)
        refine ⟨rfl, ?_⟩
        show TxtP B t k w (textO (t.data.toList.drop (k + 1))) _ _
        rw [HQ.out]
        exact ⟨hg.out, rfl, hR.out⟩
      · have hbd := byteD_lt (t.data.toList.drop j)
        rw [drop_len] at hbd
        have hTS := textO_step _ hpp h0
        rw [List.drop_drop] at hTS
        obtain ⟨b, hb⟩ : ∃ b, b = (byteD (t.data.toList.drop j)).1 := ⟨_, rfl⟩
        obtain ⟨n, hn⟩ : ∃ n, n = (byteD (t.data.toList.drop j)).2 := ⟨_, rfl⟩
        rw [← hb, ← hn] at HBy hTS hbd
        rw [← hn] at h0
        have HT2 : Hid (textO (t.data.toList.drop (k + 1)) = (textO (t.data.toList.drop (j + n))).map fun p => ((bs ++ [b]) ++ p.1, (j + n - (k + 1)) + p.2)) := by
          refine Lib.hid ?_
          rw [hT.out, hTS, Option.map_map]
          congr 1
          funext p
          simp only [Function.comp]
          rw [List.append_assoc]
          congr 1
          omega
        have hrs2 : Hid ((rs.extract n rs.size).data.toList = t.data.toList.drop (j + n)) := Lib.hid (by rw [ext_list, hrs.out, List.drop_drop])
        have d0 : ¬ (n : Int) = 0 := by omega
        have HBy := Lib.hid HBy
        have m1 : (n : Int) ≤ (rs.size : Int) := by omega
        have m2 : (0 : Int) ≤ (n : Int) := by omega
        have hszr : w.heap.size ≤ wr.heap.size := hB.out.size
        clear hpp hT hTS hb hn hsz
        go_wp2_with (go_at_call 36; refine (HP _).out.mono ?_; rintro e w' ⟨rfl, rfl⟩)
        refine HBy.out.mono ?_
        rintro e w1 ⟨rfl, hB1⟩
        have hO1 := Lib.hid (own_below hO.out hB1 (Nat.le_refl _))
        have hB1' := Lib.hid (hB.out.trans (hB1.mono hB.out.size))
        have hsz1 : w.heap.size ≤ w1.heap.size := hB1'.out.size
        clear hB1 HBy hO hB
        go_wp2_with (at_builtin; refine wpList_append_own _ rfl _ _ 22 rfl w.heap.size 5 i0 (.int .u8 0) 1 1 Tryd.underlying22 hi hz0 hz1 hz2 rfl (by decide) _ _ _ rfl (hO1.out.alloc _) ⟨w1.heap.size, 0, none⟩ 1 1 [.int .u8 b] rfl rfl (cell_one_new _ _ _) (by simp [Value.oneCell']) (by unfold maxLen; omega) (by omega) (by simp; omega) ?_; intro v2 w2 hown2 hgrow _)
        have hf2 := own_fin (hO1.out.alloc (.cells #[.int .u8 b] 5)) ((Lib.OthersKept.refl 5 none w1).alloc _) ((Below.refl w.heap.size w1).alloc hsz1 _) hsz1 hgrow
        have hO2 : Hid (w2.ownsRow w.heap.size 5 1 v2 (bs ++ [b]).length ((bs ++ [b]).map byteV)) := by
          refine Lib.hid ?_
          have a1 : (bs ++ [b]).length = bs.length + 1 := by simp
          have a2 : (bs ++ [b]).map byteV = bs.map byteV ++ [.int .u8 b] := by simp [byteV]
          rw [a1, a2]; exact hown2
        have hB2 := Lib.hid (hB1'.out.trans hf2.2)
        clear hown2 hgrow hf2
        go_wp2
        go_roundg (t.size - (j + n))
        case measure => omega
        case rel => exact ⟨j + n, bs ++ [b], _, rfl, by omega, by omega, rfl, hrs2, by simp; omega, HT2, hO2, hB2⟩
end Go.Proofs.YtdodkbpagbblmaaDoor
