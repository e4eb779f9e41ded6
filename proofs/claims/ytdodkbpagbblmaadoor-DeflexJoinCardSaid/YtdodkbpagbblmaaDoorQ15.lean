import Derived.Test.YtdodkbpagbblmaaDoorQ14
namespace Go.Proofs.YtdodkbpagbblmaaDoor
open Go Go.RowKit

/-- Bytes as they stand between two quotes. -/
def quoteL (l : List UInt8) : List Nat := l.flatMap fun c => quoteB c.toNat
/-- A text in quotes. -/
def quoteF (l : List UInt8) : List Nat := [34] ++ quoteL l ++ [34]
theorem quoteL_len (l : List UInt8) : (quoteL l).length ≤ 4 * l.length := by
  induction l with
  | nil => simp [quoteL]
  | cons c l ih =>
    have := quoteB_len c.toNat
    simp [quoteL] at ih ⊢
    omega
theorem quoteL_snoc (l : List UInt8) (c : UInt8) : quoteL (l ++ [c]) = quoteL l ++ quoteB c.toNat := by simp [quoteL]
theorem quoteF_len (l : List UInt8) : (quoteF l).length ≤ 4 * l.length + 2 := by
  have := quoteL_len l
  unfold quoteF
  simp
  omega
theorem take_at (s : ByteArray) (k : Nat) (h : k < s.size) : s.data.toList.take (k + 1) = s.data.toList.take k ++ [s[k]] := by
  have h' : k < s.data.toList.length := by rw [← Lib.size_eq]; exact h
  rw [List.take_succ_eq_append_getElem h']
  congr 1

set_option maxRecDepth 100000 in
set_option maxHeartbeats 4000000 in
theorem appendQuoted_any (v : Value) (l : List Nat) (s : ByteArray) (hs : s.size ≤ 1048576) (n₀ : Nat) (w : World) (hown : w.ownsRow n₀ 5 1 v l.length (l.map byteV)) (hn : n₀ ≤ w.heap.size) (hl : l.length ≤ 10000000) :
    Calls Tryd.prog 31 #[v, .string s] w (bytePost (l ++ quoteF s.data.toList) n₀ w) := by
  obtain ⟨i0, hi, hz0, hz1, hz2⟩ := info_parts Tryd.info5
  go_enter Tryd.func31, Tryd.ntmps31
  go_wp2_with (at_builtin; refine wpList_append_own _ rfl _ _ 22 rfl n₀ 5 i0 (.int .u8 0) 1 1 Tryd.underlying22 hi hz0 hz1 hz2 rfl (by decide) _ _ _ rfl (hown.alloc _) ⟨w.heap.size, 0, none⟩ 1 1 [.int .u8 34] rfl rfl (cell_one_new _ _ _) (by simp [Value.oneCell']) (by unfold maxLen; omega) (by omega) (by simp; omega) ?_; intro v1 w1 hown1 hgrow _)
  have hf := own_fin (hown.alloc (.cells #[.int .u8 34] 5)) ((Lib.OthersKept.refl 5 none w).alloc _) ((Below.refl n₀ w).alloc hn _) hn hgrow
  have hO1 : Hid (w1.ownsRow n₀ 5 1 v1 (l ++ [34] ++ quoteL (s.data.toList.take 0)).length ((l ++ [34] ++ quoteL (s.data.toList.take 0)).map byteV)) := by
    refine Lib.hid ?_
    have e1 : (l ++ [34] ++ quoteL (s.data.toList.take 0)).length = l.length + 1 := by simp [quoteL]
    have e2 : (l ++ [34] ++ quoteL (s.data.toList.take 0)).map byteV = l.map byteV ++ [.int .u8 34] := by simp [byteV, quoteL]
    rw [e1, e2]; exact hown1
  have hK1 := Lib.hid hf.1
  have hB1 := Lib.hid hf.2
  clear hown1 hf hgrow hown
  go_wp2
  go_loopw [0, 11] (fun q p wr => ∃ (k : Nat), p = .int .i64 k ∧ k ≤ s.size ∧ Hid (wr.ownsRow n₀ 5 1 q (l ++ [34] ++ quoteL (s.data.toList.take k)).length ((l ++ [34] ++ quoteL (s.data.toList.take k)).map byteV)) ∧ Hid (Lib.OthersKept 5 none w wr) ∧ Hid (Below n₀ w wr))
    (fun _ p _ => s.size - (intOf p).toNat)
  case atStart => exact ⟨0, rfl, Nat.zero_le _, hO1, hK1, hB1⟩
  case round =>
    clear hO1 hK1 hB1
    obtain ⟨k, rfl, hk, hO, hK, hB⟩ := hrel
    have hszr : n₀ ≤ wr.heap.size := Nat.le_trans hn hB.out.size
    have hll : (l ++ [34] ++ quoteL (s.data.toList.take k)).length ≤ 20000000 := by
      have h1 := quoteL_len (s.data.toList.take k)
      rw [List.length_take, ← Lib.size_eq] at h1
      simp only [List.length_append, List.length_cons, List.length_nil]
      omega
    by_cases hlt : k < s.size
    · obtain ⟨b, hb⟩ : ∃ b, b = (s[k]'hlt).toNat := ⟨_, rfl⟩
      have hbl : b < 256 := by rw [hb]; exact (s[k]'hlt).toNat_lt
      have hib : ∀ h, (s[k]'h).toNat = b := fun h => hb.symm
      have HL : Hid (l ++ [34] ++ quoteL (s.data.toList.take k) ++ quoteB b = l ++ [34] ++ quoteL (s.data.toList.take (k + 1))) := by
        refine Lib.hid ?_
        rw [take_at s k hlt, quoteL_snoc, ← hb, List.append_assoc (l ++ [34])]
      have HC := Lib.hid (quoteB_any u0 (l ++ [34] ++ quoteL (s.data.toList.take k)) b hbl n₀ wr hO.out hszr (by omega))
      rw [HL.out] at HC
      clear hb HL hO
      go_wp2_with (go_at_call 45; refine HC.out.mono ?_; rintro e w3 ⟨v3, rfl, hown3, hk3, hB3⟩)
      have hO3 := Lib.hid hown3
      have hK3 := Lib.hid (hK.out.trans hk3)
      have hB3' := Lib.hid (hB.out.trans hB3)
      clear hown3 hk3 hB3 HC hK hB
      go_wp2
      go_roundw
      case rel => exact ⟨k + 1, by go_num, by omega, hO3, hK3, hB3'⟩
      case measure => simp [intOf]; omega
    · obtain rfl : k = s.size := by omega
      rw [show s.data.toList.take s.size = s.data.toList from by rw [Lib.size_eq, List.take_length]] at hO hll
      obtain ⟨L, hL⟩ : ∃ L, L = l ++ [34] ++ quoteL s.data.toList := ⟨_, rfl⟩
      have HE : Hid (l ++ quoteF s.data.toList = L ++ [34]) := Lib.hid (by rw [hL]; simp [quoteF])
      rw [← hL] at hO hll
      clear hL
      go_wp2_with (at_builtin; refine wpList_append_own _ rfl _ _ 22 rfl n₀ 5 i0 (.int .u8 0) 1 1 Tryd.underlying22 hi hz0 hz1 hz2 rfl (by decide) _ _ _ rfl (hO.out.alloc _) ⟨wr.heap.size, 0, none⟩ 1 1 [.int .u8 34] rfl rfl (cell_one_new _ _ _) (by simp [Value.oneCell']) (by unfold maxLen; omega) (by omega) (by simp; omega) ?_; intro v4 w4 hown4 hgrow4 _)
      have hf4 := own_fin (hO.out.alloc _) ((Lib.OthersKept.refl 5 none wr).alloc _) ((Below.refl n₀ wr).alloc hszr _) hszr hgrow4
      go_ret
      refine ⟨v4, rfl, ?_, hK.out.trans hf4.1, hB.out.trans hf4.2⟩
      have e1 : (L ++ [34]).length = L.length + 1 := by simp
      have e2 : (L ++ [34]).map byteV = L.map byteV ++ [.int .u8 34] := by simp [byteV]
      rw [HE.out, e1, e2]; exact hown4
end Go.Proofs.YtdodkbpagbblmaaDoor
