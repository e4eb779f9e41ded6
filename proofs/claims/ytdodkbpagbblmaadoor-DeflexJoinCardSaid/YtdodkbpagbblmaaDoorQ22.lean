import Derived.Lib.ItoaLen
import Derived.Test.YtdodkbpagbblmaaDoorQ20
import Derived.Test.YtdodkbpagbblmaaDoorQ21
namespace Go.Proofs.YtdodkbpagbblmaaDoor
open Go Go.RowKit

/-- What Print says of words. -/
def printR (l : List (Wd × Int)) : ByteArray × Int :=
  if l.all (fun x => mayB x.1) = true then (if 1048576 < (joinW l).length then (⟨#[]⟩, 3) else (bytesStr (joinW l), 0)) else (⟨#[]⟩, 2)

/-- A word that may be is at least as long as what it has. -/
theorem wordF_long (x : Wd) (h : mayB x = true) : x.txt.size ≤ (wordF x).length := by
  have hq : ∀ l : List UInt8, l.length ≤ (quoteL l).length := by
    intro l
    induction l with
    | nil => simp [quoteL]
    | cons c l ih =>
      have := quoteB_pos c.toNat
      simp [quoteL] at ih ⊢
      omega
  obtain ⟨kd, tx, st, nm⟩ := x
  unfold mayB at h
  rw [Bool.and_eq_true] at h
  have hs := h.2
  unfold sameW at hs
  simp only [Bool.and_eq_true, beq_iff_eq] at hs
  have ht := hs.2.1
  by_cases c2 : kd = 2
  · have := hq tx.data.toList
    unfold wordF quoteF
    rw [if_pos c2]
    simp only [List.length_append, List.length_cons, List.length_nil]
    rw [Lib.size_eq]
    omega
  · by_cases c3 : kd = 3
    · have : tx.size = 0 := by
        unfold bareW at ht
        rw [if_neg (by simp; omega), if_pos c3] at ht
        have := congrArg List.length ht
        rw [ByteArray.toList_eq, ByteArray.toList_eq] at this
        rw [Lib.size_eq]
        exact this
      simp only
      omega
    · by_cases c4 : kd = 4
      · have : tx.size = 0 := by
          unfold bareW at ht
          rw [if_neg (by simp; omega), if_neg c3, if_pos c4] at ht
          have := congrArg List.length ht
          rw [ByteArray.toList_eq, ByteArray.toList_eq] at this
          rw [Lib.size_eq]
          exact this
        simp only
        omega
      · unfold wordF
        rw [if_neg c2, if_neg c3, if_neg c4, List.length_map, ← Lib.size_eq]
        exact Nat.le_refl _

theorem wordF_len (x : Wd) (h0 : -9223372036854775808 ≤ x.num) (h1 : x.num ≤ 9223372036854775807) : (wordF x).length ≤ 4 * x.txt.size + 3000 := by
  obtain ⟨kd, tx, st, nm⟩ := x
  unfold wordF
  split
  · have := quoteF_len tx.data.toList
    rw [← Lib.size_eq] at this
    simp only
    omega
  · split
    · have := textS_len st
      simp only
      omega
    · split
      · simp only [List.length_map]
        have := Lib.itoa_length_le nm h0 h1
        omega
      · simp only [List.length_map]
        rw [← Lib.size_eq]
        omega

theorem cell_one_next (w : World) (o : Obj) (a0 : Value) (t : TypeId) : ∀ j u, [a0][j]? = some u → ((w.alloc o).alloc (.cells #[a0] t)).cell? ((⟨w.heap.size + 1, 0, none⟩ : Addr).add j) = some u := by
  have h := cell_one_new (w.alloc o) a0 t
  rw [World.size_alloc] at h
  exact h

set_option maxRecDepth 100000 in
set_option maxHeartbeats 16000000 in
theorem print_any (a : Option Addr) (cap : Nat) (l : List (Wd × Int)) (w : World) (hG : GlobD w) (hl : RowW w a l) (hll : l.length ≤ 1048576) (hx : ∀ x ∈ l, x.1.txt.size ≤ 1048576 ∧ -9223372036854775808 ≤ x.1.num ∧ x.1.num ≤ 9223372036854775807) :
    Calls Tryd.prog 8 #[.slice a l.length cap] w fun e w' => e = .returned (.tuple #[.string (printR l).1, .int .i64 (printR l).2]) ∧ Below w.heap.size w w' := by
  obtain ⟨i0, hi, hz0, hz1, hz2⟩ := info_parts Tryd.info5
  have HD := Lib.hid hl
  have HG := Lib.hid hG
  have HX := Lib.hid hx
  obtain ⟨n, hn⟩ : ∃ n, n = l.length := ⟨_, rfl⟩
  have HN : Hid (l.length = n) := hn.symm
  rw [← hn] at hll ⊢
  clear hl hG hx hn
  go_enter Tryd.func8, Tryd.ntmps8
  go_wp2
  go_loopw [11] (fun i wr => ∃ (m : Nat), i = .int .i64 m ∧ m ≤ n ∧ Hid (∀ x ∈ l.take m, mayB x.1 = true) ∧ Hid (Below w.heap.size w wr))
    (fun i _ => n - (intOf i).toNat)
  case atStart => exact ⟨0, rfl, Nat.zero_le _, Lib.hid (by simp), Below.refl _ _⟩
  case round =>
    obtain ⟨m, rfl, hm, hA, hB⟩ := hrel
    have hszr := hB.out.size
    by_cases hlt : m < n
    · have HXm : Hid (l[m]? = some (l[m]'(by rw [HN.out]; exact hlt))) := Lib.hid (List.getElem?_eq_getElem _)
      obtain ⟨x, hx⟩ : ∃ x, l[m]'(by rw [HN.out]; exact hlt) = x := ⟨_, rfl⟩
      rw [hx] at HXm
      clear hx
      have hxs := HX.out x (List.mem_of_getElem? HXm.out)
      have HTk : Hid (l.take (m + 1) = l.take m ++ [x]) := Lib.hid (by rw [List.take_add_one, HXm.out]; rfl)
      obtain ⟨x, ax⟩ := x
      dsimp only at hxs
      obtain ⟨g, off, rfl, hW⟩ := HD.out m _ HXm.out
      have hW := hW.below hB.out hW.lt
      have bg := hW.lt
      obtain ⟨c0, c1, c2, c3, c4, c5, c6, c7⟩ := hW
      dsimp only at c0 c1 c2 c3 c4 c5 c6 c7
      have HB0 : Hid (Below w.heap.size w (wr.alloc (.cells (wordC x ax) 38))) := hB.out.alloc hszr _
      unfold wordC at HB0
      have HC := fun w' => Lib.hid (mayBe_any x ax (by omega) w')
      have n1 : (m : Int) < (n : Int) := by omega
      cases hmb : mayB x with
      | true =>
        rw [hmb] at HC
        have HA2 : Hid (∀ y ∈ l.take (m + 1), mayB y.1 = true) := by
          refine Lib.hid ?_
          rw [HTk.out]
          intro y hy
          rw [List.mem_append] at hy
          rcases hy with hy | hy
          · exact hA.out y hy
          · rw [List.mem_singleton] at hy; rw [hy]; exact hmb
        unfold wordV wordC at HC
        clear hA HTk hmb
        go_wp2_with (go_at_call 15; refine (HC _).out.mono ?_; rintro e w3 ⟨rfl, hB3⟩)
        have HB3 := Lib.hid (HB0.out.trans (hB3.mono HB0.out.size))
        clear hB3
        go_wp2
        go_roundw
        case rel => exact ⟨m + 1, by go_num, by omega, HA2, HB3⟩
        case measure => simp [intOf]; omega
      | false =>
        rw [hmb] at HC
        have HR : Hid (printR l = (⟨#[]⟩, 2)) := by
          refine Lib.hid ?_
          unfold printR
          rw [if_neg]
          intro h
          have := List.all_eq_true.1 h _ (List.mem_of_getElem? HXm.out)
          rw [hmb] at this
          cases this
        unfold wordV wordC at HC
        clear hA HTk hmb
        go_wp2_with (go_at_call 15; refine (HC _).out.mono ?_; rintro e w3 ⟨rfl, hB3⟩)
        have HB3 := Lib.hid (HB0.out.trans (hB3.mono HB0.out.size))
        clear hB3
        go_wp2
        go_ret2
        exact ⟨by rw [HR.out]; rfl, HB3.out⟩
    · obtain rfl : m = n := by omega
      have HM : Hid (∀ x ∈ l, mayB x.1 = true) := by
        have := hA.out
        rw [List.take_of_length_le (by rw [HN.out]; exact Nat.le_refl _)] at this
        exact this
      have HP : Hid (printR l = if 1048576 < (joinW l).length then (⟨#[]⟩, 3) else (bytesStr (joinW l), 0)) := by
        refine Lib.hid ?_
        unfold printR
        rw [if_pos]
        rw [List.all_eq_true]
        exact HM.out
      have hO0 : Hid (wr.ownsRow w.heap.size 5 1 (.slice none 0 0) (joinW (l.take 0)).length ((joinW (l.take 0)).map byteV)) := by
        rw [List.take_zero]
        exact World.ownsRow_nil _ _ _ _
      have hB0 := hB
      obtain ⟨wq, hwq⟩ : ∃ wq : World, wq = wr := ⟨_, rfl⟩
      rw [← hwq] at hO0 hB0 ⊢
      clear hA hB hm hszr hwq
      go_wp2
      go_loopw [6, 21] (fun q i wr => ∃ (k : Nat), i = .int .i64 k ∧ k ≤ m ∧ Hid (wr.ownsRow w.heap.size 5 1 q (joinW (l.take k)).length ((joinW (l.take k)).map byteV)) ∧ Hid (Below w.heap.size w wr) ∧ (joinW (l.take k)).length ≤ 5000000)
        (fun _ i _ => m - (intOf i).toNat)
      case atStart => exact ⟨0, rfl, Nat.zero_le _, hO0, hB0, by rw [List.take_zero]; simp [joinW]⟩
      case round =>
        clear hO0 hB0
        obtain ⟨k, rfl, hk, hO, hB, hjm⟩ := hrel
        have hszr := hB.out.size
        have hjl := joinW_take l k
        by_cases hlt2 : k < m
        · have HXm : Hid (l[k]? = some (l[k]'(by rw [HN.out]; exact hlt2))) := Lib.hid (List.getElem?_eq_getElem _)
          obtain ⟨x, hx⟩ : ∃ x, l[k]'(by rw [HN.out]; exact hlt2) = x := ⟨_, rfl⟩
          rw [hx] at HXm
          clear hx
          have hxs := HX.out x (List.mem_of_getElem? HXm.out)
          have hmb := HM.out x (List.mem_of_getElem? HXm.out)
          have HTk : Hid (l.take (k + 1) = l.take k ++ [x]) := Lib.hid (by rw [List.take_add_one, HXm.out]; rfl)
          obtain ⟨x, ax⟩ := x
          dsimp only at hxs hmb
          have hw1 := wordF_long x hmb
          have hw2 := wordF_len x hxs.2.1 hxs.2.2
          have hjl2 := joinW_take l (k + 1)
          obtain ⟨g, off, rfl, hW⟩ := HD.out k _ HXm.out
          have hW := hW.below hB.out hW.lt
          have bg := hW.lt
          obtain ⟨c0, c1, c2, c3, c4, c5, c6, c7⟩ := hW
          dsimp only at c0 c1 c2 c3 c4 c5 c6 c7
          have n1 : (k : Int) < (m : Int) := by omega
          obtain ⟨sa, sc, rfl⟩ := own_slice hO.out
          have HB0 : Hid (Below w.heap.size w (wr.alloc (.cells (wordC x ax) 38))) := hB.out.alloc hszr _
          have HO0 : Hid ((wr.alloc (.cells (wordC x ax) 38)).ownsRow w.heap.size 5 1 (.slice sa (joinW (l.take k)).length sc) (joinW (l.take k)).length ((joinW (l.take k)).map byteV)) := hO.out.alloc _
          have hsz0 : w.heap.size ≤ (wr.alloc (.cells (wordC x ax) 38)).heap.size := HB0.out.size
          by_cases hk0 : k = 0
          · have hsn : joinW (l.take (k + 1)) = joinW (l.take k) ++ wordF x := by rw [HTk.out, hk0, List.take_zero]; simp [joinW, tailW]
            have hlen := congrArg List.length hsn
            rw [List.length_append] at hlen
            have n0 : ¬ (0 : Int) < (k : Int) := by omega
            have HC := Lib.hid (appendWord_any (.slice sa (joinW (l.take k)).length sc) (joinW (l.take k)) x ax hxs.1 hxs.2.1 hxs.2.2 w.heap.size (wr.alloc (.cells (wordC x ax) 38)) (HG.out.above HG.out.big HB0.out) HG.out.big HO0.out hsz0 (by omega))
            rw [← hsn] at HC
            clear hO HTk hsn hk0
            unfold wordC at HO0 HB0 hsz0 HC
            unfold wordV wordC at HC
            by_cases hbig : 1048576 < (joinW (l.take k)).length + x.txt.size
            · have n2 : (1048576 : Int) < ((joinW (l.take k)).length : Int) + (x.txt.size : Int) := by omega
              have HR : Hid (printR l = (⟨#[]⟩, 3)) := Lib.hid (HP.out.trans (if_pos (by omega)))
              clear HC
              go_wp2
              go_ret2
              exact ⟨by rw [HR.out]; rfl, HB0.out⟩
            · have n2 : ¬ (1048576 : Int) < ((joinW (l.take k)).length : Int) + (x.txt.size : Int) := by omega
              go_wp2_with (go_at_call 16; refine HC.out.mono ?_; rintro e w3 ⟨v3, rfl, hown3, hk3, hB3⟩)
              have HO3 := Lib.hid hown3
              have HB3 := Lib.hid (HB0.out.trans hB3)
              clear hown3 hk3 hB3 HC HO0 HB0
              go_wp2
              go_roundw
              case rel => exact ⟨k + 1, by go_num, by omega, HO3, HB3, by omega⟩
              case measure => simp [intOf]; omega
          · have hne : l.take k ≠ [] := fun h => by
              have := congrArg List.length h
              rw [List.length_take, HN.out] at this
              simp at this
              omega
            have hsn : joinW (l.take (k + 1)) = joinW (l.take k) ++ [32] ++ wordF x := by rw [HTk.out]; exact joinW_snoc _ _ hne
            have hlen := congrArg List.length hsn
            rw [List.length_append, List.length_append, List.length_singleton] at hlen
            have n0 : (0 : Int) < (k : Int) := by omega
            have HC := fun (w1 : World) (v1 : Value) (hB1 : Below w.heap.size w w1) (ho : w1.ownsRow w.heap.size 5 1 v1 ((joinW (l.take k)).length + 1) ((joinW (l.take k)).map byteV ++ [.int .u8 32])) =>
              Lib.hid (appendWord_any v1 (joinW (l.take k) ++ [32]) x ax hxs.1 hxs.2.1 hxs.2.2 w.heap.size w1 (HG.out.above HG.out.big hB1) HG.out.big (by rw [List.length_append, List.map_append]; exact ho) hB1.size (by rw [List.length_append, List.length_singleton]; omega))
            rw [← hsn] at HC
            clear hO HTk hsn hne
            have HW := Lib.hid (Blk.new wr 38 (wordC x ax))
            unfold wordC at HO0 HB0 hsz0 HW
            unfold wordV wordC at HC
            by_cases hbig : 1048576 < (joinW (l.take k)).length + 1 + x.txt.size
            · have n2 : (1048576 : Int) < ((joinW (l.take k)).length : Int) + 1 + (x.txt.size : Int) := by omega
              have HR : Hid (printR l = (⟨#[]⟩, 3)) := Lib.hid (HP.out.trans (if_pos (by omega)))
              clear HC
              go_wp2_with (at_builtin; refine wpList_append_own _ rfl _ _ 22 rfl w.heap.size 5 i0 (.int .u8 0) 1 1 Tryd.underlying22 hi hz0 hz1 hz2 rfl (by decide) _ _ _ rfl (HO0.out.alloc _) ⟨wr.heap.size + 1, 0, none⟩ 1 1 [.int .u8 32] rfl rfl (cell_one_next _ _ _ _) (by simp [Value.oneCell']) (by unfold maxLen; omega) (by omega) (by simp; omega) ?_; intro v1 w1 hown1 hgrow _; have hf2 := own_fin (HO0.out.alloc (.cells #[.int .u8 32] 5)) ((Lib.OthersKept.refl 5 none _).alloc _) ((Below.refl w.heap.size _).alloc hsz0 _) hsz0 hgrow; have hb2 := blk_others HW.out (by decide) hf2.1; have d0 : w1.cell? ⟨wr.heap.size, 0, none⟩ = some (.int .i64 x.kind) := hb2.cell 0; have d1 : w1.cell? ⟨wr.heap.size, 1, none⟩ = some (.int .i64 ax) := hb2.cell 1; have d2 : w1.cell? ⟨wr.heap.size, 2, none⟩ = some (.string x.txt) := hb2.cell 2; have d3 : w1.cell? ⟨wr.heap.size, 3, none⟩ = some (.int .u64 (wdI x.set 0)) := hb2.cell 3; have d4 : w1.cell? ⟨wr.heap.size, 4, none⟩ = some (.int .u64 (wdI x.set 1)) := hb2.cell 4; have d5 : w1.cell? ⟨wr.heap.size, 5, none⟩ = some (.int .u64 (wdI x.set 2)) := hb2.cell 5; have d6 : w1.cell? ⟨wr.heap.size, 6, none⟩ = some (.int .u64 (wdI x.set 3)) := hb2.cell 6; have d7 : w1.cell? ⟨wr.heap.size, 7, none⟩ = some (.int .i64 x.num) := hb2.cell 7; obtain ⟨sb, sd, rfl⟩ := own_slice hown1)
              go_ret2
              exact ⟨by rw [HR.out]; rfl, HB0.out.trans hf2.2⟩
            · have n2 : ¬ (1048576 : Int) < ((joinW (l.take k)).length : Int) + 1 + (x.txt.size : Int) := by omega
              go_wp2_with (first
                | (at_builtin; refine wpList_append_own _ rfl _ _ 22 rfl w.heap.size 5 i0 (.int .u8 0) 1 1 Tryd.underlying22 hi hz0 hz1 hz2 rfl (by decide) _ _ _ rfl (HO0.out.alloc _) ⟨wr.heap.size + 1, 0, none⟩ 1 1 [.int .u8 32] rfl rfl (cell_one_next _ _ _ _) (by simp [Value.oneCell']) (by unfold maxLen; omega) (by omega) (by simp; omega) ?_; intro v1 w1 hown1 hgrow _; have hf2 := own_fin (HO0.out.alloc (.cells #[.int .u8 32] 5)) ((Lib.OthersKept.refl 5 none _).alloc _) ((Below.refl w.heap.size _).alloc hsz0 _) hsz0 hgrow; have hb2 := blk_others HW.out (by decide) hf2.1; have d0 : w1.cell? ⟨wr.heap.size, 0, none⟩ = some (.int .i64 x.kind) := hb2.cell 0; have d1 : w1.cell? ⟨wr.heap.size, 1, none⟩ = some (.int .i64 ax) := hb2.cell 1; have d2 : w1.cell? ⟨wr.heap.size, 2, none⟩ = some (.string x.txt) := hb2.cell 2; have d3 : w1.cell? ⟨wr.heap.size, 3, none⟩ = some (.int .u64 (wdI x.set 0)) := hb2.cell 3; have d4 : w1.cell? ⟨wr.heap.size, 4, none⟩ = some (.int .u64 (wdI x.set 1)) := hb2.cell 4; have d5 : w1.cell? ⟨wr.heap.size, 5, none⟩ = some (.int .u64 (wdI x.set 2)) := hb2.cell 5; have d6 : w1.cell? ⟨wr.heap.size, 6, none⟩ = some (.int .u64 (wdI x.set 3)) := hb2.cell 6; have d7 : w1.cell? ⟨wr.heap.size, 7, none⟩ = some (.int .i64 x.num) := hb2.cell 7; obtain ⟨sb, sd, rfl⟩ := own_slice hown1)
                | (go_at_call 16; refine (HC _ _ (HB0.out.trans hf2.2) hown1).out.mono ?_; rintro e w3 ⟨v3, rfl, hown3, hk3, hB3⟩))
              have HO3 := Lib.hid hown3
              have HB3 := Lib.hid ((HB0.out.trans hf2.2).trans hB3)
              clear hown3 hk3 hB3 HC HO0 HB0
              go_wp2
              go_roundw
              case rel => exact ⟨k + 1, by go_num, by omega, HO3, HB3, by omega⟩
              case measure => simp [intOf]; omega
        · obtain rfl : k = m := by omega
          have hjt : joinW (l.take k) = joinW l := by rw [List.take_of_length_le (by rw [HN.out]; exact Nat.le_refl _)]
          rw [hjt] at hO
          clear hjt hjl hjm
          obtain ⟨sa, sc, rfl⟩ := own_slice hO.out
          have hcv := conv_owns hO.out
          by_cases hbig : 1048576 < (joinW l).length
          · have n2 : (1048576 : Int) < ((joinW l).length : Int) := by omega
            have HR : Hid (printR l = (⟨#[]⟩, 3)) := Lib.hid (HP.out.trans (if_pos hbig))
            go_wp2
            go_ret2
            exact ⟨by rw [HR.out]; rfl, hB.out⟩
          · have n2 : ¬ (1048576 : Int) < ((joinW l).length : Int) := by omega
            have HR : Hid (printR l = (bytesStr (joinW l), 0)) := Lib.hid (HP.out.trans (if_neg hbig))
            go_wp2
            go_ret2
            exact ⟨by rw [HR.out]; rfl, hB.out⟩
end Go.Proofs.YtdodkbpagbblmaaDoor
