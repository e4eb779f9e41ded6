import Derived.Test.YtdodkbpagbblmaaDoorQ15
import Derived.Test.YtdodkbpagbblmaaDoorQ12
namespace Go.Proofs.YtdodkbpagbblmaaDoor
open Go Go.RowKit

theorem GlobD.above {w w' : World} {n : Nat} (h : GlobD w) (hn : 4 < n) (hB : Below n w w') : GlobD w' :=
  h.at5 (fun i hi => hB.block i (by omega)) hB.size

theorem byteT_small (b : Nat) (hb : b < 256) : ∀ x ∈ byteT b, x < 256 := by
  have hx : ∀ n, n < 16 → hexC n < 256 := fun n h => by unfold hexC; split <;> omega
  unfold byteT
  repeat' split
  all_goals simp
  all_goals (try omega)
  exact ⟨hx _ (by omega), hx _ (by omega)⟩
theorem rangeT_small (r : Nat × Nat) (h1 : r.1 < 256) (h2 : r.2 < 256) : ∀ x ∈ rangeT r, x < 256 := by
  intro x hx
  unfold rangeT at hx
  split at hx
  · exact byteT_small _ h1 x hx
  · split at hx
    · rw [List.mem_append, List.mem_append] at hx
      rcases hx with (hx | hx) | hx
      · exact byteT_small _ h1 x hx
      · simp at hx; omega
      · exact byteT_small _ h2 x hx
    · rw [List.mem_append] at hx
      rcases hx with hx | hx
      · exact byteT_small _ h1 x hx
      · exact byteT_small _ h2 x hx
theorem rangesT_small (rs : List (Nat × Nat)) (h : SmallR rs) : ∀ x ∈ rangesT rs, x < 256 := by
  intro x hx
  unfold rangesT at hx
  rw [List.mem_flatMap] at hx
  obtain ⟨r, hr, hx⟩ := hx
  exact rangeT_small r (h r hr).1 (h r hr).2 x hx
theorem textS_small (s : BS) : ∀ x ∈ textS s, x < 256 := by
  intro x hx
  have h : ∀ s : BS, ∀ x ∈ rangesT (rngs (bytesL s)), x < 256 := fun s => rangesT_small _ (rngs_small _ fun y hy => ((mem_bytesL s y).1 hy).1)
  unfold textS at hx
  split at hx
  · rw [List.mem_append, List.mem_append] at hx
    rcases hx with (hx | hx) | hx
    · simp at hx; omega
    · exact h _ x hx
    · simp at hx; omega
  · rw [List.mem_append, List.mem_append] at hx
    rcases hx with (hx | hx) | hx
    · simp at hx; omega
    · exact h _ x hx
    · simp at hx; omega
theorem textS_len (s : BS) : (textS s).length ≤ 3000 := by
  have h1 := rangesT_len (rngs (bytesL s))
  have h2 := rangesT_len (rngs (bytesL (~~~s)))
  have h3 := rngs_length (bytesL s)
  have h4 := rngs_length (bytesL (~~~s))
  have h5 := length_bytesL s
  have h6 := length_bytesL (~~~s)
  unfold textS
  split <;> simp <;> omega
theorem bytesStr_list (l : List Nat) : (bytesStr l).data.toList = l.map UInt8.ofNat := by
  unfold bytesStr
  rw [strOfNums_data, List.map_map]
  rfl
theorem bytesStr_size (l : List Nat) : (bytesStr l).size = l.length := by
  rw [Lib.size_eq, bytesStr_list, List.length_map]
theorem cells_bytesStr (l : List Nat) (h : ∀ x ∈ l, x < 256) : Lib.strCells (bytesStr l) = l.map byteV := by
  unfold Lib.strCells
  rw [bytesStr_list, List.map_map]
  refine List.map_congr_left fun x hx => ?_
  have := h x hx
  simp [byteV, UInt8.toNat_ofNat', Nat.mod_eq_of_lt this]

/-- A word's text. -/
def wordF (x : Wd) : List Nat :=
  if x.kind = 2 then quoteF x.txt.data.toList else if x.kind = 3 then textS x.set else if x.kind = 4 then (Lib.itoa x.num).map UInt8.toNat else x.txt.data.toList.map UInt8.toNat
theorem strCells_nat (s : ByteArray) : Lib.strCells s = (s.data.toList.map UInt8.toNat).map byteV := by
  unfold Lib.strCells
  rw [List.map_map]
  rfl
theorem byteCells_nat (l : List UInt8) : Lib.byteCells l = (l.map UInt8.toNat).map byteV := by
  unfold Lib.byteCells
  rw [List.map_map]
  rfl

set_option maxRecDepth 100000 in
set_option maxHeartbeats 4000000 in
theorem appendWord_any (v : Value) (l : List Nat) (x : Wd) (a : Int) (ht : x.txt.size ≤ 1048576) (hm0 : -9223372036854775808 ≤ x.num) (hm1 : x.num ≤ 9223372036854775807) (n₀ : Nat) (w : World) (hG : GlobD w) (h4 : 4 < n₀) (hown : w.ownsRow n₀ 5 1 v l.length (l.map byteV)) (hn : n₀ ≤ w.heap.size) (hl : l.length ≤ 9000000) :
    Calls Tryd.prog 16 #[v, wordV x a] w (bytePost (l ++ wordF x) n₀ w) := by
  obtain ⟨i0, hi, hz0, hz1, hz2⟩ := info_parts Tryd.info5
  obtain ⟨kd, tx, st, nm⟩ := x
  dsimp only at ht hm0 hm1
  have hB0 : Hid (Below n₀ w (w.alloc (.cells (wordC ⟨kd, tx, st, nm⟩ a) 38))) := (Below.refl n₀ w).alloc hn _
  have hK0 : Hid (Lib.OthersKept 5 none w (w.alloc (.cells (wordC ⟨kd, tx, st, nm⟩ a) 38))) := (Lib.OthersKept.refl 5 none w).alloc _
  have hO0 : Hid ((w.alloc (.cells (wordC ⟨kd, tx, st, nm⟩ a) 38)).ownsRow n₀ 5 1 v l.length (l.map byteV)) := hown.alloc _
  have hG0 : Hid (GlobD (w.alloc (.cells (wordC ⟨kd, tx, st, nm⟩ a) 38))) := hG.above h4 hB0.out
  have hsz : n₀ ≤ (w.alloc (.cells (wordC ⟨kd, tx, st, nm⟩ a) 38)).heap.size := Nat.le_trans hn hB0.out.size
  have hwk : wordF ⟨kd, tx, st, nm⟩ = if kd = 2 then quoteF tx.data.toList else if kd = 3 then textS st else if kd = 4 then (Lib.itoa nm).map UInt8.toNat else tx.data.toList.map UInt8.toNat := rfl
  have HF := Lib.hid hwk
  clear hwk hown hG
  by_cases c1 : kd = 2
  · have HX : Hid (wordF ⟨kd, tx, st, nm⟩ = quoteF tx.data.toList) := Lib.hid (by rw [HF.out, if_pos c1])
    have HC := Lib.hid (appendQuoted_any v l tx ht n₀ _ hO0.out hsz (by omega))
    rw [← HX.out] at HC
    generalize wordF ⟨kd, tx, st, nm⟩ = TX at HC ⊢
    clear HF HX
    subst c1
    unfold wordC at *
    unfold wordV wordC
    go_enter Tryd.func16, Tryd.ntmps16
    go_wp2_with (go_at_call 31; refine HC.out.mono ?_; rintro e w3 ⟨v3, rfl, hown3, hk3, hB3⟩)
    go_ret
    exact ⟨v3, rfl, hown3, hK0.out.trans hk3, hB0.out.trans hB3⟩
  · by_cases c2 : kd = 3
    · have HX : Hid (wordF ⟨kd, tx, st, nm⟩ = textS st) := Lib.hid (by rw [HF.out, if_neg c1, if_pos c2])
      have HC := Lib.hid (text_any st _ hG0.out.base)
      have hlen := textS_len st
      have HS := Lib.hid (textS_small st)
      clear HF c1
      generalize wordF ⟨kd, tx, st, nm⟩ = TX at HX ⊢
      generalize textS st = M at HC hlen HS HX
      subst c2
      unfold wordC at *
      unfold wordV wordC
      unfold vset at HC
      go_enter Tryd.func16, Tryd.ntmps16
      go_wp2_with (first
        | (go_at_call 32; refine HC.out.mono ?_; rintro e w3 ⟨rfl, hB3⟩; have hO3 := own_below hO0.out hB3 (Nat.le_refl _); have hsz3 := Nat.le_trans hsz hB3.size)
        | (at_builtin; refine Lib.wpList_append_own_string _ rfl _ _ 22 9 rfl n₀ 5 i0 Tryd.underlying22 Tryd.underlying9 hi hz0 hz1 hz2 _ _ _ rfl hO3 (bytesStr M) rfl (by rw [bytesStr_size]; unfold maxLen; omega) (by rw [bytesStr_size]; omega) hsz3 ?_; intro v' w1 hown1 hgrow _))
      have hf4 := own_fin hO3 (hK0.out.below hB3) (hB0.out.trans (hB3.mono hsz)) hn hgrow
      go_ret
      refine ⟨v', rfl, ?_, hf4.1, hf4.2⟩
      rw [bytesStr_size, cells_bytesStr M HS.out] at hown1
      rw [HX.out, List.length_append, List.map_append]
      exact hown1
    · by_cases c3 : kd = 4
      · have HX : Hid (wordF ⟨kd, tx, st, nm⟩ = (Lib.itoa nm).map UInt8.toNat) := Lib.hid (by rw [HF.out, if_neg c1, if_neg c2, if_pos c3])
        have HC := Lib.hid (Tryd.strconv_AppendInt_10 n₀ l.length nm hm0 hm1 v (l.map byteV) _ hO0.out hsz (by omega) (fun w' hB => (hG0.out.above h4 hB).pow))
        clear HF c1 c2
        generalize wordF ⟨kd, tx, st, nm⟩ = TX at HX ⊢
        rw [byteCells_nat] at HC
        have hM : (Lib.itoa nm).length = ((Lib.itoa nm).map UInt8.toNat).length := by rw [List.length_map]
        rw [hM] at HC
        generalize (Lib.itoa nm).map UInt8.toNat = M at HC HX
        clear hM
        subst c3
        unfold wordC at *
        unfold wordV wordC
        go_enter Tryd.func16, Tryd.ntmps16
        go_wp2_with (go_at_call 33; refine HC.out.mono ?_; rintro e w3 ⟨v3, rfl, hown3, hB3, hk3⟩)
        go_ret
        refine ⟨v3, rfl, ?_, hK0.out.trans hk3, hB0.out.trans hB3⟩
        rw [HX.out, List.length_append, List.map_append]
        exact hown3
      · have HX : Hid (wordF ⟨kd, tx, st, nm⟩ = tx.data.toList.map UInt8.toNat) := Lib.hid (by rw [HF.out, if_neg c1, if_neg c2, if_neg c3])
        clear HF
        generalize wordF ⟨kd, tx, st, nm⟩ = TX at HX ⊢
        unfold wordC at *
        unfold wordV wordC
        go_enter Tryd.func16, Tryd.ntmps16
        go_wp2_with (at_builtin; refine Lib.wpList_append_own_string _ rfl _ _ 22 9 rfl n₀ 5 i0 Tryd.underlying22 Tryd.underlying9 hi hz0 hz1 hz2 _ _ _ rfl hO0.out tx rfl (by unfold maxLen; omega) (by omega) hsz ?_; intro v' w1 hown1 hgrow _)
        have hf4 := own_fin hO0.out hK0.out hB0.out hn hgrow
        go_ret
        refine ⟨v', rfl, ?_, hf4.1, hf4.2⟩
        rw [strCells_nat] at hown1
        rw [HX.out, List.length_append, List.map_append, List.length_map, ← Lib.size_eq]
        exact hown1
end Go.Proofs.YtdodkbpagbblmaaDoor
