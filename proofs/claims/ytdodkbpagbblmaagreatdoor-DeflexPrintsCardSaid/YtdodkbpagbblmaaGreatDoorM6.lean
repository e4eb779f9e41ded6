import Derived.Deep.RegionHeld3
import Derived.Lib.ItoaLen
import Derived.Test.YtdodkbpagbblmaaGreatDoorM1
import Derived.Test.YtdodkbpagbblmaaGreatDoorM4
import Derived.Test.YtdodkbpagbblmaaGreatDoorM5
section
namespace Go.Proofs.YtdodkbpagbblmaaGreatDoor
open Go Go.RowKit

theorem Tryz.info35 : (Tryz.prog.info? 35).map (fun i => (i.zero, i.size, i.bytes)) = some (some (.agg #[.int .i64 0, .int .i64 0, .string ⟨#[]⟩, .int .u64 0, .int .u64 0, .int .u64 0, .int .u64 0, .int .i64 0]), 8, 72) := by kernel_rfl

theorem hexs_none_nil : readS [] = none := by decide
theorem runL_pos (c : UInt8) (r : List UInt8) (h : namB c.toNat = true) : 1 ≤ runL (c :: r) := by rw [runL_cons, if_pos h]; omega
theorem textF_le : ∀ (f : Nat) (l : List UInt8) (p : List Nat × Nat), textF f l = some p → p.2 ≤ l.length := by
  intro f
  induction f with
  | zero => intro l p h; simp [textF] at h
  | succ f ih =>
    intro l p h
    unfold textF at h
    split at h
    · rename_i hp
      cases h
      cases l with
      | nil => simp [Lib.hasPrefix] at hp
      | cons c r => simp
    · split at h
      · cases h
      · rename_i h0
        rw [Option.map_eq_some_iff] at h
        obtain ⟨q, hq, rfl⟩ := h
        have h1 := ih _ _ hq
        have h2 := (byteD_lt l).2
        rw [List.length_drop] at h1
        simp only
        omega
/-- A word is no longer than the text, and not empty. -/
theorem nextW_len (l : List UInt8) (p : Wd × Nat) (h : nextW l = some p) : 1 ≤ p.2 ∧ p.2 ≤ l.length := by
  cases l with
  | nil => cases h
  | cons c r =>
    rw [nextW_of (c :: r) c r rfl c.toNat rfl] at h
    have hr := runL_le (c :: r)
    have hs := setL_le _ (c :: r) (Nat.le_refl _)
    split at h
    · rename_i hl
      split at h
      · cases h
        refine ⟨runL_pos c r ?_, hr⟩
        simp [namB] at hl ⊢
        rcases hl with h | h
        · exact .inl (.inl h)
        · exact .inr h
      · cases h
    · split at h
      · rename_i hd
        rw [Option.map_eq_some_iff] at h
        obtain ⟨q, _, rfl⟩ := h
        exact ⟨runL_pos c r (by simp [namB, hd]), hr⟩
      · split at h
        · rw [Option.map_eq_some_iff] at h
          obtain ⟨q, hq, rfl⟩ := h
          have := textF_le _ _ _ hq
          simp only [List.length_cons]
          omega
        · split at h
          · rw [Option.map_eq_some_iff] at h
            obtain ⟨q, hq, rfl⟩ := h
            refine ⟨?_, hs⟩
            simp only
            rcases Nat.eq_zero_or_pos (setL (c :: r)) with h0 | h0
            · unfold setO at hq
              rw [h0] at hq
              simp [hexs_none_nil] at hq
            · exact h0
          · split at h
            · cases h; simp
            · cases h

/-- The words of a text's rest, that begins at a place; and the place of what can't be read. -/
def lexF : Nat → List UInt8 → Nat → List (Wd × Nat) × Option Nat
  | 0, _, _ => ([], none)
  | f + 1, l, k =>
    if l.drop (skipL l) = [] then ([], none) else
    match nextW (l.drop (skipL l)) with
    | none => ([], some (k + skipL l))
    | some p => ((p.1, k + skipL l) :: (lexF f ((l.drop (skipL l)).drop p.2) (k + skipL l + p.2)).1, (lexF f ((l.drop (skipL l)).drop p.2) (k + skipL l + p.2)).2)
def lexAt (l : List UInt8) (k : Nat) : List (Wd × Nat) × Option Nat := lexF (l.length + 1) l k

theorem lexF_more : ∀ (n : Nat) (l : List UInt8), l.length ≤ n → ∀ f k, l.length + 1 ≤ f → lexF f l k = lexF (l.length + 1) l k := by
  intro n
  induction n with
  | zero =>
    intro l hl f k hf
    have : l = [] := List.length_eq_zero_iff.1 (by omega)
    subst this
    obtain ⟨g, rfl⟩ : ∃ g, f = g + 1 := ⟨f - 1, by simp at hf; omega⟩
    rfl
  | succ n ih =>
    intro l hl f k hf
    obtain ⟨g, rfl⟩ : ∃ g, f = g + 1 := ⟨f - 1, by omega⟩
    unfold lexF
    split
    · rfl
    · split
      · rfl
      · rename_i p hp
        have h1 := nextW_len _ p hp
        have h2 := skipL_le l
        rw [List.length_drop] at h1
        have hd : ((l.drop (skipL l)).drop p.2).length + 1 ≤ l.length := by rw [List.length_drop, List.length_drop]; omega
        rw [ih _ (by omega) g _ (by omega), ih _ (by omega) l.length _ hd]
theorem lexAt_end (l : List UInt8) (k : Nat) (h : l.drop (skipL l) = []) : lexAt l k = ([], none) := by
  unfold lexAt lexF; rw [if_pos h]
theorem lexAt_bad (l : List UInt8) (k : Nat) (h : l.drop (skipL l) ≠ []) (hn : nextW (l.drop (skipL l)) = none) : lexAt l k = ([], some (k + skipL l)) := by
  unfold lexAt lexF; rw [if_neg h, hn]
theorem lexAt_step (l : List UInt8) (k : Nat) (p : Wd × Nat) (h : l.drop (skipL l) ≠ []) (hn : nextW (l.drop (skipL l)) = some p) :
    lexAt l k = ((p.1, k + skipL l) :: (lexAt ((l.drop (skipL l)).drop p.2) (k + skipL l + p.2)).1, (lexAt ((l.drop (skipL l)).drop p.2) (k + skipL l + p.2)).2) := by
  have h1 := nextW_len _ p hn
  have h2 := skipL_le l
  rw [List.length_drop] at h1
  have hd : ((l.drop (skipL l)).drop p.2).length + 1 ≤ l.length := by rw [List.length_drop, List.length_drop]; omega
  unfold lexAt
  conv => lhs; unfold lexF
  rw [if_neg h, hn]
  simp only
  rw [lexF_more _ _ (Nat.le_refl _) l.length _ hd]

def wcells (p : Wd × Nat) : List Value := [.int .i64 p.1.kind, .int .i64 (p.2 : Int), .string p.1.txt, .int .u64 (wdI p.1.set 0), .int .u64 (wdI p.1.set 1), .int .u64 (wdI p.1.set 2), .int .u64 (wdI p.1.set 3), .int .i64 p.1.num]
def cellsW (ws : List (Wd × Nat)) : List Value := ws.flatMap wcells
theorem cellsW_snoc (ws : List (Wd × Nat)) (p : Wd × Nat) : cellsW (ws ++ [p]) = cellsW ws ++ wcells p := by simp [cellsW]
end Go.Proofs.YtdodkbpagbblmaaGreatDoor
end
section
namespace Go.Proofs.YtdodkbpagbblmaaGreatDoor
open Go Go.RowKit

theorem GlobD.above {w w' : World} {n : Nat} (h : GlobD w) (hn : 4 < n) (hB : Below n w w') : GlobD w' :=
  h.at5 (fun i hi => hB.block i (by omega)) hB.size

theorem byteT_small (b : Nat) (hb : b < 256) : ∀ x ∈ byteT b, x < 256 := by
  have hx : ∀ n, n < 16 → hexC n < 256 := fun n h => by unfold hexC; split <;> omega
  unfold byteT
  repeat' split
  all_goals simp
  all_goals (try omega)
  exact ⟨hx _ (by omega), hx _ (by omega)⟩
theorem rangeT_small (r : Nat × Nat) (h1 : r.1 < 256) (h2 : r.2 < 256) : ∀ x ∈ rangeT r, x < 256 := by
  intro x hx
  unfold rangeT at hx
  split at hx
  · exact byteT_small _ h1 x hx
  · split at hx
    · rw [List.mem_append, List.mem_append] at hx
      rcases hx with (hx | hx) | hx
      · exact byteT_small _ h1 x hx
      · simp at hx; omega
      · exact byteT_small _ h2 x hx
    · rw [List.mem_append] at hx
      rcases hx with hx | hx
      · exact byteT_small _ h1 x hx
      · exact byteT_small _ h2 x hx
theorem rangesT_small (rs : List (Nat × Nat)) (h : SmallR rs) : ∀ x ∈ rangesT rs, x < 256 := by
  intro x hx
  unfold rangesT at hx
  rw [List.mem_flatMap] at hx
  obtain ⟨r, hr, hx⟩ := hx
  exact rangeT_small r (h r hr).1 (h r hr).2 x hx
theorem textS_small (s : BS) : ∀ x ∈ textS s, x < 256 := by
  intro x hx
  have h : ∀ s : BS, ∀ x ∈ rangesT (rngs (bytesL s)), x < 256 := fun s => rangesT_small _ (rngs_small _ fun y hy => ((mem_bytesL s y).1 hy).1)
  unfold textS at hx
  split at hx
  · rw [List.mem_append, List.mem_append] at hx
    rcases hx with (hx | hx) | hx
    · simp at hx; omega
    · exact h _ x hx
    · simp at hx; omega
  · rw [List.mem_append, List.mem_append] at hx
    rcases hx with (hx | hx) | hx
    · simp at hx; omega
    · exact h _ x hx
    · simp at hx; omega
theorem textS_len (s : BS) : (textS s).length ≤ 3000 := by
  have h1 := rangesT_len (rngs (bytesL s))
  have h2 := rangesT_len (rngs (bytesL (~~~s)))
  have h3 := rngs_length (bytesL s)
  have h4 := rngs_length (bytesL (~~~s))
  have h5 := length_bytesL s
  have h6 := length_bytesL (~~~s)
  unfold textS
  split <;> simp <;> omega
theorem bytesStr_list (l : List Nat) : (bytesStr l).data.toList = l.map UInt8.ofNat := by
  unfold bytesStr
  rw [strOfNums_data, List.map_map]
  rfl
theorem bytesStr_size (l : List Nat) : (bytesStr l).size = l.length := by
  rw [Lib.size_eq, bytesStr_list, List.length_map]
theorem cells_bytesStr (l : List Nat) (h : ∀ x ∈ l, x < 256) : Lib.strCells (bytesStr l) = l.map byteV := by
  unfold Lib.strCells
  rw [bytesStr_list, List.map_map]
  refine List.map_congr_left fun x hx => ?_
  have := h x hx
  simp [byteV, UInt8.toNat_ofNat', Nat.mod_eq_of_lt this]

/-- A word's text. -/
def wordF (x : Wd) : List Nat :=
  if x.kind = 2 then quoteF x.txt.data.toList else if x.kind = 3 then textS x.set else if x.kind = 4 then (Lib.itoa x.num).map UInt8.toNat else x.txt.data.toList.map UInt8.toNat
theorem strCells_nat (s : ByteArray) : Lib.strCells s = (s.data.toList.map UInt8.toNat).map byteV := by
  unfold Lib.strCells
  rw [List.map_map]
  rfl
theorem byteCells_nat (l : List UInt8) : Lib.byteCells l = (l.map UInt8.toNat).map byteV := by
  unfold Lib.byteCells
  rw [List.map_map]
  rfl

set_option maxRecDepth 100000 in
set_option maxHeartbeats 4000000 in
theorem appendWord_any (v : Value) (l : List Nat) (x : Wd) (a : Int) (ht : x.txt.size ≤ 1048576) (hm0 : -9223372036854775808 ≤ x.num) (hm1 : x.num ≤ 9223372036854775807) (n₀ : Nat) (w : World) (hG : GlobD w) (h4 : 4 < n₀) (hown : w.ownsRow n₀ 5 1 v l.length (l.map byteV)) (hn : n₀ ≤ w.heap.size) (hl : l.length ≤ 9000000) :
    Calls Tryz.prog 27 #[v, wordV x a] w (bytePost (l ++ wordF x) n₀ w) := by
  obtain ⟨i0, hi, hz0, hz1, hz2⟩ := info_parts Tryz.info5
  obtain ⟨kd, tx, st, nm⟩ := x
  dsimp only at ht hm0 hm1
  have hB0 : Hid (Below n₀ w (w.alloc (.cells (wordC ⟨kd, tx, st, nm⟩ a) 35))) := (Below.refl n₀ w).alloc hn _
  have hK0 : Hid (Lib.OthersKept 5 none w (w.alloc (.cells (wordC ⟨kd, tx, st, nm⟩ a) 35))) := (Lib.OthersKept.refl 5 none w).alloc _
  have hO0 : Hid ((w.alloc (.cells (wordC ⟨kd, tx, st, nm⟩ a) 35)).ownsRow n₀ 5 1 v l.length (l.map byteV)) := hown.alloc _
  have hG0 : Hid (GlobD (w.alloc (.cells (wordC ⟨kd, tx, st, nm⟩ a) 35))) := hG.above h4 hB0.out
  have hsz : n₀ ≤ (w.alloc (.cells (wordC ⟨kd, tx, st, nm⟩ a) 35)).heap.size := Nat.le_trans hn hB0.out.size
  have hwk : wordF ⟨kd, tx, st, nm⟩ = if kd = 2 then quoteF tx.data.toList else if kd = 3 then textS st else if kd = 4 then (Lib.itoa nm).map UInt8.toNat else tx.data.toList.map UInt8.toNat := rfl
  have HF := Lib.hid hwk
  clear hwk hown hG
  by_cases c1 : kd = 2
  · have HX : Hid (wordF ⟨kd, tx, st, nm⟩ = quoteF tx.data.toList) := Lib.hid (by rw [HF.out, if_pos c1])
    have HC := Lib.hid (appendQuoted_any v l tx ht n₀ _ hO0.out hsz (by omega))
    rw [← HX.out] at HC
    generalize wordF ⟨kd, tx, st, nm⟩ = TX at HC ⊢
    clear HF HX
    subst c1
    unfold wordC at *
    unfold wordV wordC
    go_enter Tryz.func27, Tryz.ntmps27
    go_wp2_with (go_at_call 32; refine HC.out.mono ?_; rintro e w3 ⟨v3, rfl, hown3, hk3, hB3⟩)
    go_ret
    exact ⟨v3, rfl, hown3, hK0.out.trans hk3, hB0.out.trans hB3⟩
  · by_cases c2 : kd = 3
    · have HX : Hid (wordF ⟨kd, tx, st, nm⟩ = textS st) := Lib.hid (by rw [HF.out, if_neg c1, if_pos c2])
      have HC := Lib.hid (text_any st _ hG0.out.base)
      have hlen := textS_len st
      have HS := Lib.hid (textS_small st)
      clear HF c1
      generalize wordF ⟨kd, tx, st, nm⟩ = TX at HX ⊢
      generalize textS st = M at HC hlen HS HX
      subst c2
      unfold wordC at *
      unfold wordV wordC
      unfold vset at HC
      go_enter Tryz.func27, Tryz.ntmps27
      go_wp2_with (first
        | (go_at_call 49; refine HC.out.mono ?_; rintro e w3 ⟨rfl, hB3⟩; have hO3 := own_below hO0.out hB3 (Nat.le_refl _); have hsz3 := Nat.le_trans hsz hB3.size)
        | (at_builtin; refine Lib.wpList_append_own_string _ rfl _ _ 58 9 rfl n₀ 5 i0 Tryz.underlying58 Tryz.underlying9 hi hz0 hz1 hz2 _ _ _ rfl hO3 (bytesStr M) rfl (by rw [bytesStr_size]; unfold maxLen; omega) (by rw [bytesStr_size]; omega) hsz3 ?_; intro v' w1 hown1 hgrow _))
      have hf4 := own_fin hO3 (hK0.out.below hB3) (hB0.out.trans (hB3.mono hsz)) hn hgrow
      go_ret
      refine ⟨v', rfl, ?_, hf4.1, hf4.2⟩
      rw [bytesStr_size, cells_bytesStr M HS.out] at hown1
      rw [HX.out, List.length_append, List.map_append]
      exact hown1
    · by_cases c3 : kd = 4
      · have HX : Hid (wordF ⟨kd, tx, st, nm⟩ = (Lib.itoa nm).map UInt8.toNat) := Lib.hid (by rw [HF.out, if_neg c1, if_neg c2, if_pos c3])
        have HC := Lib.hid (Tryz.strconv_AppendInt_10 n₀ l.length nm hm0 hm1 v (l.map byteV) _ hO0.out hsz (by omega) (fun w' hB => (hG0.out.above h4 hB).pow))
        clear HF c1 c2
        generalize wordF ⟨kd, tx, st, nm⟩ = TX at HX ⊢
        rw [byteCells_nat] at HC
        have hM : (Lib.itoa nm).length = ((Lib.itoa nm).map UInt8.toNat).length := by rw [List.length_map]
        rw [hM] at HC
        generalize (Lib.itoa nm).map UInt8.toNat = M at HC HX
        clear hM
        subst c3
        unfold wordC at *
        unfold wordV wordC
        go_enter Tryz.func27, Tryz.ntmps27
        go_wp2_with (go_at_call 50; refine HC.out.mono ?_; rintro e w3 ⟨v3, rfl, hown3, hB3, hk3⟩)
        go_ret
        refine ⟨v3, rfl, ?_, hK0.out.trans hk3, hB0.out.trans hB3⟩
        rw [HX.out, List.length_append, List.map_append]
        exact hown3
      · have HX : Hid (wordF ⟨kd, tx, st, nm⟩ = tx.data.toList.map UInt8.toNat) := Lib.hid (by rw [HF.out, if_neg c1, if_neg c2, if_neg c3])
        clear HF
        generalize wordF ⟨kd, tx, st, nm⟩ = TX at HX ⊢
        unfold wordC at *
        unfold wordV wordC
        go_enter Tryz.func27, Tryz.ntmps27
        go_wp2_with (at_builtin; refine Lib.wpList_append_own_string _ rfl _ _ 58 9 rfl n₀ 5 i0 Tryz.underlying58 Tryz.underlying9 hi hz0 hz1 hz2 _ _ _ rfl hO0.out tx rfl (by unfold maxLen; omega) (by omega) hsz ?_; intro v' w1 hown1 hgrow _)
        have hf4 := own_fin hO0.out hK0.out hB0.out hn hgrow
        go_ret
        refine ⟨v', rfl, ?_, hf4.1, hf4.2⟩
        rw [strCells_nat] at hown1
        rw [HX.out, List.length_append, List.map_append, List.length_map, ← Lib.size_eq]
        exact hown1
end Go.Proofs.YtdodkbpagbblmaaGreatDoor
end
section
namespace Go.Proofs.YtdodkbpagbblmaaGreatDoor
open Go Go.RowKit

theorem part27 (a b c d : Int) (w : World) : (part 31 #[.int .u64 a, .int .u64 b, .int .u64 c, .int .u64 d] 0).run Tryz.prog w = .ok (.int .u64 a) w := by kernel_rfl
theorem part27_1 (a b c d : Int) (w : World) : (part 31 #[.int .u64 a, .int .u64 b, .int .u64 c, .int .u64 d] 1).run Tryz.prog w = .ok (.int .u64 b) w := by kernel_rfl
theorem part27_2 (a b c d : Int) (w : World) : (part 31 #[.int .u64 a, .int .u64 b, .int .u64 c, .int .u64 d] 2).run Tryz.prog w = .ok (.int .u64 c) w := by kernel_rfl
theorem part27_3 (a b c d : Int) (w : World) : (part 31 #[.int .u64 a, .int .u64 b, .int .u64 c, .int .u64 d] 3).run Tryz.prog w = .ok (.int .u64 d) w := by kernel_rfl
theorem size27 (w : World) : (sizeOf 31).run Tryz.prog w = .ok 1 w := by kernel_rfl

theorem eq_words (n : Nat) (a b c d a' b' c' d' : Int) (w : World) : (Op.equalIn (n + 2) 33 (.agg #[.int .u64 a, .int .u64 b, .int .u64 c, .int .u64 d]) (.agg #[.int .u64 a', .int .u64 b', .int .u64 c', .int .u64 d'])).run Tryz.prog w =
    .ok (a == a' && (b == b' && (c == c' && d == d'))) w := by
  have hu : Tryz.prog.underlying 33 = some (.array 4 31) := by kernel_rfl
  have h27 : Tryz.prog.underlying 31 = some (.int .u64) := by kernel_rfl
  rw [Op.equalIn]
  simp only [Sem.run_bind, run_underlying hu, Result.andThen_ok, size27]
  simp only [Std.Legacy.Range.forIn_eq_forIn_range', Std.Legacy.Range.size]
  rw [show List.range' 0 ((4 - 0 + 1 - 1) / 1) = [0, 1, 2, 3] from rfl]
  simp only [List.forIn_cons, List.forIn_nil, Sem.run_bind, Nat.reduceMul, part27, Result.andThen_ok, run_equalIn_int w n 31 .u64 .u64 _ _ h27]
  by_cases h0 : a = a'
  · by_cases h1 : b = b'
    · by_cases h2 : c = c'
      · by_cases h3 : d = d' <;> simp [h0, h1, h2, h3, part27_1, part27_2, part27_3, run_equalIn_int _ n 31 .u64 .u64 _ _ h27]
      · simp [h0, h1, h2, part27_1, part27_2, part27_3, run_equalIn_int _ n 31 .u64 .u64 _ _ h27]
    · simp [h0, h1, part27_1, part27_2, part27_3, run_equalIn_int _ n 31 .u64 .u64 _ _ h27]
  · simp [h0]

theorem vset_beq (s t : BS) : (wdI s 0 == wdI t 0 && (wdI s 1 == wdI t 1 && (wdI s 2 == wdI t 2 && wdI s 3 == wdI t 3))) = (s == t) := by
  by_cases h : s = t
  · subst h; simp
  · have : (s == t) = false := by simpa using h
    rw [this]
    cases hx : (wdI s 0 == wdI t 0 && (wdI s 1 == wdI t 1 && (wdI s 2 == wdI t 2 && wdI s 3 == wdI t 3)))
    · rfl
    · simp only [Bool.and_eq_true, beq_iff_eq] at hx
      exact absurd (wdI_inj hx.1 hx.2.1 hx.2.2.1 hx.2.2.2) h

theorem eq_sets (s t : BS) (w : World) : (Op.equalIn 10000 33 (.agg #[.int .u64 (wdI s 0), .int .u64 (wdI s 1), .int .u64 (wdI s 2), .int .u64 (wdI s 3)]) (.agg #[.int .u64 (wdI t 0), .int .u64 (wdI t 1), .int .u64 (wdI t 2), .int .u64 (wdI t 3)])).run Tryz.prog w = .ok (s == t) w := by
  rw [← vset_beq]; exact eq_words 9998 _ _ _ _ _ _ _ _ w

end Go.Proofs.YtdodkbpagbblmaaGreatDoor
end
section
namespace Go.Proofs.YtdodkbpagbblmaaGreatDoor
open Go Go.RowKit

theorem fields38 : (Tryz.prog.fieldsOf 35).toList.map (fun f => (f.name, f.type, f.offset)) = [("Kind", 30, 0), ("At", 3, 1), ("Text", 9, 2), ("Set", 33, 3), ("Number", 3, 7)] := by kernel_rfl

theorem eqf_cons (d : Nat) (xs ys : Array Value) (f : Field) (fs : List Field) (s : String) (t o : Nat) (h : (f.name, f.type, f.offset) = (s, t, o)) (hs : s ≠ "_") (a b : Value) (r : Bool) (w : World)
    (ha : (part t xs o).run Tryz.prog w = .ok a w) (hb : (part t ys o).run Tryz.prog w = .ok b w) (hr : (Op.equalIn d t a b).run Tryz.prog w = .ok r w) :
    (Op.eqFields d xs ys (f :: fs)).run Tryz.prog w = if r then (Op.eqFields d xs ys fs).run Tryz.prog w else .ok false w := by
  obtain ⟨rfl, rfl, rfl⟩ : f.name = s ∧ f.type = t ∧ f.offset = o := by simpa using h
  simp only [Op.eqFields, if_pos hs, Sem.run_bind, ha, hb, hr, Result.andThen_ok]
  cases r <;> simp

theorem eq_wds (n : Nat) (x y : Wd) (a b : Int) (w : World) : (Op.equalIn (n + 4) 35 (wordV x a) (wordV y b)).run Tryz.prog w =
    .ok (x.kind == y.kind && (a == b && (x.txt.toList == y.txt.toList && (x.set == y.set && x.num == y.num)))) w := by
  have h1 : Tryz.prog.underlying 35 = some (.struct (Tryz.prog.fieldsOf 35)) := by kernel_rfl
  have h2 : Tryz.prog.stoodInHeld 35 = false := by kernel_rfl
  have u33 : Tryz.prog.underlying 30 = some (.int .i64) := by kernel_rfl
  have u3 : Tryz.prog.underlying 3 = some (.int .i64) := by kernel_rfl
  have u9 : Tryz.prog.underlying 9 = some .string := by kernel_rfl
  have hf := fields38
  unfold wordV
  rw [run_equalIn_struct w (n + 3) 35 _ _ h1 h2]
  revert hf
  generalize (Tryz.prog.fieldsOf 35).toList = fs
  intro hf
  obtain ⟨f0, fs0, rfl⟩ : ∃ f l, fs = f :: l := by cases fs with | nil => simp at hf | cons f l => exact ⟨f, l, rfl⟩
  rw [List.map_cons, List.cons.injEq] at hf
  obtain ⟨g0, hf⟩ := hf
  obtain ⟨f1, fs1, rfl⟩ : ∃ f l, fs0 = f :: l := by cases fs0 with | nil => simp at hf | cons f l => exact ⟨f, l, rfl⟩
  rw [List.map_cons, List.cons.injEq] at hf
  obtain ⟨g1, hf⟩ := hf
  obtain ⟨f2, fs2, rfl⟩ : ∃ f l, fs1 = f :: l := by cases fs1 with | nil => simp at hf | cons f l => exact ⟨f, l, rfl⟩
  rw [List.map_cons, List.cons.injEq] at hf
  obtain ⟨g2, hf⟩ := hf
  obtain ⟨f3, fs3, rfl⟩ : ∃ f l, fs2 = f :: l := by cases fs2 with | nil => simp at hf | cons f l => exact ⟨f, l, rfl⟩
  rw [List.map_cons, List.cons.injEq] at hf
  obtain ⟨g3, hf⟩ := hf
  obtain ⟨f4, fs4, rfl⟩ : ∃ f l, fs3 = f :: l := by cases fs3 with | nil => simp at hf | cons f l => exact ⟨f, l, rfl⟩
  rw [List.map_cons, List.cons.injEq] at hf
  obtain ⟨g4, hf⟩ := hf
  obtain rfl : fs4 = [] := by simpa using hf
  obtain ⟨xk, xt, xs, xn⟩ := x
  obtain ⟨yk, yt, ys, yn⟩ := y
  unfold wordC
  dsimp only
  have e3 : (Op.equalIn (n + 3) 33 (.agg #[.int .u64 (wdI xs 0), .int .u64 (wdI xs 1), .int .u64 (wdI xs 2), .int .u64 (wdI xs 3)]) (.agg #[.int .u64 (wdI ys 0), .int .u64 (wdI ys 1), .int .u64 (wdI ys 2), .int .u64 (wdI ys 3)])).run Tryz.prog w = .ok (xs == ys) w := by
    rw [← vset_beq]; exact eq_words (n + 1) _ _ _ _ _ _ _ _ w
  rw [eqf_cons (n + 3) _ _ f0 _ _ _ _ g0 (by decide) (.int .i64 xk) (.int .i64 yk) _ w (by kernel_rfl) (by kernel_rfl) (run_equalIn_int w (n + 2) 30 .i64 .i64 xk yk u33),
    eqf_cons (n + 3) _ _ f1 _ _ _ _ g1 (by decide) (.int .i64 a) (.int .i64 b) _ w (by kernel_rfl) (by kernel_rfl) (run_equalIn_int w (n + 2) 3 .i64 .i64 a b u3),
    eqf_cons (n + 3) _ _ f2 _ _ _ _ g2 (by decide) (.string xt) (.string yt) _ w (by kernel_rfl) (by kernel_rfl) (run_equalIn_string w (n + 2) 9 xt yt u9),
    eqf_cons (n + 3) _ _ f3 _ _ _ _ g3 (by decide) _ _ _ w (by kernel_rfl) (by kernel_rfl) e3,
    eqf_cons (n + 3) _ _ f4 _ _ _ _ g4 (by decide) (.int .i64 xn) (.int .i64 yn) _ w (by kernel_rfl) (by kernel_rfl) (run_equalIn_int w (n + 2) 3 .i64 .i64 xn yn u3)]
  have e4 : (Op.eqFields (n + 3) (#[.int .i64 xk, .int .i64 a, .string xt, .int .u64 (wdI xs 0), .int .u64 (wdI xs 1), .int .u64 (wdI xs 2), .int .u64 (wdI xs 3), .int .i64 xn] : Array Value) (#[.int .i64 yk, .int .i64 b, .string yt, .int .u64 (wdI ys 0), .int .u64 (wdI ys 1), .int .u64 (wdI ys 2), .int .u64 (wdI ys 3), .int .i64 yn] : Array Value) []).run Tryz.prog w = .ok true w := by
    simp [Op.eqFields]
  rw [e4]
  cases xk == yk <;> cases a == b <;> cases xt.toList == yt.toList <;> cases xs == ys <;> cases xn == yn <;> rfl
end Go.Proofs.YtdodkbpagbblmaaGreatDoor
end
section
namespace Go.Proofs.YtdodkbpagbblmaaGreatDoor
open Go Go.RowKit

/-- A word with its place, as it lies in memory. -/
structure WordAt (w : World) (b o : Nat) (x : Wd × Int) : Prop where
  c0 : w.cell? ⟨b, o, none⟩ = some (.int .i64 x.1.kind)
  c1 : w.cell? ⟨b, o + 1, none⟩ = some (.int .i64 x.2)
  c2 : w.cell? ⟨b, o + 2, none⟩ = some (.string x.1.txt)
  c3 : w.cell? ⟨b, o + 3, none⟩ = some (.int .u64 (wdI x.1.set 0))
  c4 : w.cell? ⟨b, o + 4, none⟩ = some (.int .u64 (wdI x.1.set 1))
  c5 : w.cell? ⟨b, o + 5, none⟩ = some (.int .u64 (wdI x.1.set 2))
  c6 : w.cell? ⟨b, o + 6, none⟩ = some (.int .u64 (wdI x.1.set 3))
  c7 : w.cell? ⟨b, o + 7, none⟩ = some (.int .i64 x.1.num)
/-- Words as they lie behind a slice. -/
def RowW (w : World) (a : Option Addr) (l : List (Wd × Int)) : Prop :=
  ∀ (i : Nat) (x : Wd × Int), l[i]? = some x → ∃ b off, a = some ⟨b, off, none⟩ ∧ WordAt w b (off + i * 8) x
theorem WordAt.to {w W : World} {b o : Nat} {x : Wd × Int} (h : WordAt w b o x) (hb : W.heap[b]? = w.heap[b]?) : WordAt W b o x := by
  have k : ∀ o, W.cell? ⟨b, o, none⟩ = w.cell? ⟨b, o, none⟩ := fun o => World.cell?_of_block (w := w) hb
  exact ⟨(k _).trans h.c0, (k _).trans h.c1, (k _).trans h.c2, (k _).trans h.c3, (k _).trans h.c4, (k _).trans h.c5, (k _).trans h.c6, (k _).trans h.c7⟩
theorem WordAt.lt {w : World} {b o : Nat} {x : Wd × Int} (h : WordAt w b o x) : b < w.heap.size := lt_of_cell h.c0
theorem WordAt.below {w W : World} {n b o : Nat} {x : Wd × Int} (h : WordAt w b o x) (hB : Below n w W) (hn : b < n) : WordAt W b o x := h.to (hB.block b hn)
theorem RowW.to {w W : World} {a : Option Addr} {l : List (Wd × Int)} (h : RowW w a l) (hb : ∀ g o, a = some ⟨g, o, none⟩ → W.heap[g]? = w.heap[g]?) : RowW W a l := fun i x hx => by
  obtain ⟨b, off, rfl, k⟩ := h i x hx
  exact ⟨b, off, rfl, k.to (hb _ _ rfl)⟩
theorem RowW.below {w W : World} {a : Option Addr} {l : List (Wd × Int)} (h : RowW w a l) (hB : Below w.heap.size w W) : RowW W a l := fun i x hx => by
  obtain ⟨b, off, rfl, k⟩ := h i x hx
  exact ⟨b, off, rfl, k.below hB k.lt⟩

/-- Are two words the same, wherever they stand? -/
def sameW (x y : Wd) : Bool := x.kind == y.kind && (x.txt.toList == y.txt.toList && (x.set == y.set && x.num == y.num))

set_option maxRecDepth 100000 in
set_option maxHeartbeats 4000000 in
theorem same1_any (x y : Wd) (a b : Int) (w : World) : Calls Tryz.prog 31 #[wordV x a, wordV y b] w fun e w' => e = .returned (.bool (sameW x y)) ∧ Below w.heap.size w w' := by
  have HE := fun w' => Lib.hid (eq_wds 9996 x y b b w')
  obtain ⟨r, hr⟩ : ∃ r, r = sameW x y := ⟨_, rfl⟩
  have hrr : (x.kind == y.kind && (b == b && (x.txt.toList == y.txt.toList && (x.set == y.set && x.num == y.num)))) = r := by rw [hr]; unfold sameW; simp
  simp only [hrr] at HE
  rw [← hr]
  clear hr hrr
  have HE' := fun w' => (HE w').out
  unfold wordV wordC at *
  go_enter Tryz.func31, Tryz.ntmps31
  go_wp2
  go_ret
  exact ⟨rfl, ((Below.refl _ w).alloc (Nat.le_refl _) _).alloc (by simp) _⟩
end Go.Proofs.YtdodkbpagbblmaaGreatDoor
end
section
namespace Go.Proofs.YtdodkbpagbblmaaGreatDoor
open Go Go.RowKit

/-- Are words the same, one by one? -/
def sameL : List (Wd × Int) → List (Wd × Int) → Bool
  | [], [] => true
  | x :: xs, y :: ys => sameW x.1 y.1 && sameL xs ys
  | _, _ => false
theorem sameL_len : ∀ (l k : List (Wd × Int)), l.length ≠ k.length → sameL l k = false := by
  intro l
  induction l with
  | nil => intro k h; cases k with | nil => simp at h | cons y k => rfl
  | cons x l ih =>
    intro k h
    cases k with
    | nil => rfl
    | cons y k => unfold sameL; rw [ih k (by simp at h; omega)]; simp
theorem sameL_at (l k : List (Wd × Int)) (i : Nat) (x y : Wd × Int) (hx : l[i]? = some x) (hy : k[i]? = some y) : sameL (l.drop i) (k.drop i) = (sameW x.1 y.1 && sameL (l.drop (i + 1)) (k.drop (i + 1))) := by
  obtain ⟨h1, e1⟩ := List.getElem?_eq_some_iff.1 hx
  obtain ⟨h2, e2⟩ := List.getElem?_eq_some_iff.1 hy
  rw [List.drop_eq_getElem_cons h1, List.drop_eq_getElem_cons h2, e1, e2]
  rfl

set_option maxRecDepth 100000 in
set_option maxHeartbeats 4000000 in
theorem equalFunc_any (a b : Option Addr) (ca cb : Nat) (l k : List (Wd × Int)) (w : World) (hl : RowW w a l) (hk : RowW w b k) (hll : l.length ≤ 1048576) (_hkl : k.length ≤ 1048576) :
    Calls Tryz.prog 30 #[.slice a l.length ca, .slice b k.length cb, .func (.func 31) #[] #[]] w fun e w' => e = .returned (.bool (sameL l k)) ∧ Below w.heap.size w w' := by
  have HD := Lib.hid hl
  have HK := Lib.hid hk
  clear hl hk
  by_cases hne : l.length = k.length
  · obtain ⟨n, hn⟩ : ∃ n, n = l.length := ⟨_, rfl⟩
    rw [← hne, ← hn]
    have HN : Hid (l.length = n ∧ k.length = n) := ⟨hn.symm, by rw [← hne, hn]⟩
    have hn1 : n ≤ 1048576 := by rw [hn]; exact hll
    clear hne hn hll _hkl
    go_enter Tryz.func30, Tryz.ntmps30
    go_wp2
    go_loopw [17] (fun i wr => ∃ (m : Nat), i = .int .i64 m ∧ m ≤ n ∧ Hid (sameL l k = sameL (l.drop m) (k.drop m)) ∧ Hid (Below w.heap.size w wr))
      (fun i _ => n - (intOf i).toNat)
    case atStart => exact ⟨0, rfl, Nat.zero_le _, Lib.hid rfl, Below.refl _ _⟩
    case round =>
      obtain ⟨m, rfl, hm, hS, hB⟩ := hrel
      by_cases hlt : m < n
      · have HX : Hid (l[m]? = some (l[m]'(by rw [HN.out.1]; exact hlt))) := Lib.hid (List.getElem?_eq_getElem _)
        have HY : Hid (k[m]? = some (k[m]'(by rw [HN.out.2]; exact hlt))) := Lib.hid (List.getElem?_eq_getElem _)
        obtain ⟨x, hx⟩ : ∃ x, l[m]'(by rw [HN.out.1]; exact hlt) = x := ⟨_, rfl⟩
        obtain ⟨y, hy⟩ : ∃ y, k[m]'(by rw [HN.out.2]; exact hlt) = y := ⟨_, rfl⟩
        rw [hx] at HX
        rw [hy] at HY
        clear hx hy
        have HS := Lib.hid (sameL_at l k m x y HX.out HY.out)
        obtain ⟨x, ax⟩ := x
        obtain ⟨y, ay⟩ := y
        obtain ⟨g, off, rfl, hW⟩ := HD.out m _ HX.out
        obtain ⟨h, ofg, rfl, hV⟩ := HK.out m _ HY.out
        have hW := hW.below hB.out hW.lt
        have hV := hV.below hB.out hV.lt
        have bg := hW.lt
        have bh := hV.lt
        obtain ⟨c0, c1, c2, c3, c4, c5, c6, c7⟩ := hW
        obtain ⟨d0, d1, d2, d3, d4, d5, d6, d7⟩ := hV
        dsimp only at c0 c1 c2 c3 c4 c5 c6 c7 d0 d1 d2 d3 d4 d5 d6 d7 HS
        have hszr := hB.out.size
        have HC := fun w' => Lib.hid (same1_any x y ax ay w')
        obtain ⟨r, hr⟩ : ∃ r, r = sameW x y := ⟨_, rfl⟩
        rw [← hr] at HC HS
        unfold wordV wordC at HC
        clear hr
        have hB2 : Below w.heap.size w ((wr.alloc (.cells (wordC x ax) 35)).alloc (.cells (wordC y ay) 35)) := (hB.out.alloc hszr _).alloc (by simp; omega) _
        have HB2 := Lib.hid hB2
        clear hB2
        unfold wordC at HB2
        have n1 : (m : Int) < (n : Int) := by omega
        cases r with
        | true =>
          have HS2 : Hid (sameL l k = sameL (l.drop (m + 1)) (k.drop (m + 1))) := Lib.hid (by rw [hS.out, HS.out, Bool.true_and])
          clear hS HS HX HY
          go_wp2_with (go_at_call 31; refine (HC _).out.mono ?_; rintro e w3 ⟨rfl, hB3⟩)
          have HB3 := Lib.hid (HB2.out.trans (hB3.mono HB2.out.size))
          clear hB3
          go_wp2
          go_roundw
          case rel => exact ⟨m + 1, by go_num, by omega, HS2, HB3⟩
          case measure => simp [intOf]; omega
        | false =>
          have HS2 : Hid (sameL l k = false) := Lib.hid (by rw [hS.out, HS.out, Bool.false_and])
          clear hS HS HX HY
          go_wp2_with (go_at_call 31; refine (HC _).out.mono ?_; rintro e w3 ⟨rfl, hB3⟩)
          have HB3 := Lib.hid (HB2.out.trans (hB3.mono HB2.out.size))
          clear hB3
          go_wp2
          go_ret
          exact ⟨by rw [HS2.out]; rfl, HB3.out⟩
      · obtain rfl : m = n := by omega
        have HS2 : Hid (sameL l k = true) := by
          refine Lib.hid ?_
          rw [hS.out, List.drop_eq_nil_of_le (by rw [HN.out.1]; exact Nat.le_refl _), List.drop_eq_nil_of_le (by rw [HN.out.2]; exact Nat.le_refl _)]
          rfl
        clear hS
        go_wp2
        go_ret
        exact ⟨by rw [HS2.out]; rfl, hB.out⟩
  · have HS := Lib.hid (sameL_len l k hne)
    have n1 : ¬ (l.length : Int) = (k.length : Int) := by omega
    go_enter Tryz.func30, Tryz.ntmps30
    go_wp2
    go_ret
    exact ⟨by rw [HS.out]; rfl, Below.refl _ _⟩

set_option maxRecDepth 100000 in
theorem same_any (a b : Option Addr) (ca cb : Nat) (l k : List (Wd × Int)) (w : World) (hl : RowW w a l) (hk : RowW w b k) (hll : l.length ≤ 1048576) (hkl : k.length ≤ 1048576) :
    Calls Tryz.prog 15 #[.slice a l.length ca, .slice b k.length cb] w fun e w' => e = .returned (.bool (sameL l k)) ∧ Below w.heap.size w w' := by
  have HC := Lib.hid (equalFunc_any a b ca cb l k w hl hk hll hkl)
  clear hl hk
  go_enter Tryz.func15, Tryz.ntmps15
  go_wp2_with (go_at_call 30; refine HC.out.mono ?_; rintro e w3 ⟨rfl, hB3⟩)
  go_ret
  exact ⟨rfl, hB3⟩
end Go.Proofs.YtdodkbpagbblmaaGreatDoor
end
section
namespace Go.Proofs.YtdodkbpagbblmaaGreatDoor
open Go Go.RowKit

/-- What a word has, and nothing else: see Q20. -/
def tailW (l : List (Wd × Int)) : List Nat := l.flatMap fun x => 32 :: wordF x.1
/-- Words' texts, one blank between each two. -/
def joinW : List (Wd × Int) → List Nat
  | [] => []
  | x :: l => wordF x.1 ++ tailW l
theorem joinW_snoc (l : List (Wd × Int)) (x : Wd × Int) (h : l ≠ []) : joinW (l ++ [x]) = joinW l ++ [32] ++ wordF x.1 := by
  cases l with
  | nil => exact absurd rfl h
  | cons y l => simp [joinW, tailW]
theorem joinW_pre (l k : List (Wd × Int)) : (joinW l).length ≤ (joinW (l ++ k)).length := by
  cases l with
  | nil => simp [joinW]
  | cons y l => simp [joinW, tailW]
theorem joinW_take (l : List (Wd × Int)) (k : Nat) : (joinW (l.take k)).length ≤ (joinW l).length := by
  have h := joinW_pre (l.take k) (l.drop k)
  rw [List.take_append_drop] at h
  exact h
theorem own_slice {w : World} {b e s n : Nat} {v : Value} {xs : List Value} (h : w.ownsRow b e s v n xs) : ∃ a cap, v = .slice a n cap := by
  rcases h.2 with ⟨rfl, h0⟩ | ⟨g, cap, cur, rfl, _⟩
  · exact ⟨none, 0, by rw [h0]⟩
  · exact ⟨_, cap, rfl⟩
/-- The text of bytes that a slice owns. -/
theorem conv_owns {n₀ : Nat} {w : World} {a : Option Addr} {c : Nat} {l : List Nat} (h : w.ownsRow n₀ 5 1 (.slice a l.length c) l.length (l.map byteV)) : (convert 58 9 (.slice a l.length c)).run Tryz.prog w = .ok (.string (bytesStr l)) w := by
  rcases h.2 with ⟨h1, h0⟩ | ⟨g, cap, cur, h1, _⟩
  · have : l = [] := List.length_eq_zero_iff.1 h0
    subst this
    cases h1
    exact conv_nil w
  · cases h1
    exact conv_own g c w l l.length rfl h
end Go.Proofs.YtdodkbpagbblmaaGreatDoor
end
section
namespace Go.Proofs.YtdodkbpagbblmaaGreatDoor
open Go Go.RowKit

set_option maxHeartbeats 800000 in
theorem name_all (s : ByteArray) (w : World) : Calls Tryz.prog 19 #[.string s] w fun e w' => e = .returned (.bool (nameB s.data.toList)) ∧ w = w' := by
  have key : ∀ r, nameB s.data.toList = r → (Calls Tryz.prog 19 #[.string s] w fun e w' => e = .returned (.bool r) ∧ w = w') → Calls Tryz.prog 19 #[.string s] w fun e w' => e = .returned (.bool (nameB s.data.toList)) ∧ w = w' := fun r h k => by rw [h]; exact k
  by_cases h0 : s.size = 0
  · refine key false (by rw [(list_empty s).1 h0]; rfl) ?_
    have hem := isEmpty_of s h0
    have hem2 : (!s.toList.isEmpty) = false := by rw [hem]; rfl
    clear key h0
    go_enter Tryz.func19, Tryz.ntmps19
    go_wp2
    go_ret
    simp
  · have hem := isEmpty_not s h0
    have hem2 : (!s.toList.isEmpty) = true := by rw [hem]; rfl
    obtain ⟨b, hb⟩ : ∃ b, b = (s[0]'(by omega)).toNat := ⟨_, rfl⟩
    have hi : ∀ h, (s[0]'h).toNat = b := fun h => hb.symm
    have hE : nameB s.data.toList = (decide (s.size ≤ 64) && !digB b && decide (runL s.data.toList = s.size)) := by
      have h := drop_at s 0 (by omega)
      rw [List.drop_zero] at h
      rw [Lib.size_eq, h, hb]
      rfl
    have HE := Lib.hid hE
    have HD := Lib.hid (isDigit_any b w)
    have HRq := fun h : s.size ≤ 140737488351232 => Lib.hid (runLength_any s h w)
    have n0 : (0 : Int) < (s.size : Int) := by omega
    clear hb hE
    by_cases h1 : s.size ≤ 64
    · have d1 : (s.size : Int) ≤ 64 := by omega
      have HR := HRq (by omega)
      clear HRq
      cases hd : digB b with
      | true =>
        refine key false (by rw [HE.out, hd]; simp) ?_
        rw [hd] at HD
        clear key HE hd h0
        go_enter Tryz.func19, Tryz.ntmps19
        go_wp2_with (first | (go_at_call 33; refine HD.out.mono ?_; rintro e w' ⟨rfl, rfl⟩) | (go_at_call 34; refine HR.out.mono ?_; rintro e w' ⟨rfl, rfl⟩))
        go_ret
        simp
      | false =>
        rw [hd] at HD
        obtain ⟨q, hq⟩ : ∃ q, q = runL s.data.toList := ⟨_, rfl⟩
        rw [← hq] at HR HE
        by_cases h2 : q = s.size
        · refine key true (by rw [HE.out, hd]; simp [h1, h2]) ?_
          have d2 : ((q : Int) == (s.size : Int)) = true := by rw [beq_iff_eq]; omega
          clear key HE hd h0 hq h2
          go_enter Tryz.func19, Tryz.ntmps19
          go_wp2_with (first | (go_at_call 33; refine HD.out.mono ?_; rintro e w' ⟨rfl, rfl⟩) | (go_at_call 34; refine HR.out.mono ?_; rintro e w' ⟨rfl, rfl⟩))
          go_ret
          simp
        · refine key false (by rw [HE.out, hd]; simp [h1, h2]) ?_
          have d2 : ((q : Int) == (s.size : Int)) = false := by rw [beq_eq_false_iff_ne]; omega
          clear key HE hd h0 hq h2
          go_enter Tryz.func19, Tryz.ntmps19
          go_wp2_with (first | (go_at_call 33; refine HD.out.mono ?_; rintro e w' ⟨rfl, rfl⟩) | (go_at_call 34; refine HR.out.mono ?_; rintro e w' ⟨rfl, rfl⟩))
          go_ret
          simp
    · have d1 : ¬ (s.size : Int) ≤ 64 := by omega
      clear HRq
      refine key false (by rw [HE.out]; simp [h1]) ?_
      clear key HE h0
      go_enter Tryz.func19, Tryz.ntmps19
      go_wp2
      go_ret
      simp
end Go.Proofs.YtdodkbpagbblmaaGreatDoor
end
section
namespace Go.Proofs.YtdodkbpagbblmaaGreatDoor
open Go Go.RowKit

theorem letter_any (b : Nat) (hb : b < 256) (w : World) : Calls Tryz.prog 35 #[.int .u8 b] w fun e w' => e = .returned (.bool (letB b || decide (b = 95))) ∧ w = w' := by
  have key : ∀ r, (letB b || decide (b = 95)) = r → (Calls Tryz.prog 35 #[.int .u8 b] w fun e w' => e = .returned (.bool r) ∧ w = w') → Calls Tryz.prog 35 #[.int .u8 b] w fun e w' => e = .returned (.bool (letB b || decide (b = 95))) ∧ w = w' := fun r h k => by rw [h]; exact k
  have hc : (0 ≤ b ∧ b ≤ 64) ∨ (65 ≤ b ∧ b ≤ 90) ∨ (91 ≤ b ∧ b ≤ 94) ∨ (95 ≤ b ∧ b ≤ 95) ∨ (96 ≤ b ∧ b ≤ 96) ∨ (97 ≤ b ∧ b ≤ 122) ∨ (123 ≤ b ∧ b ≤ 255) := by omega
  rcases hc with ⟨l, u⟩ | ⟨l, u⟩ | ⟨l, u⟩ | ⟨l, u⟩ | ⟨l, u⟩ | ⟨l, u⟩ | ⟨l, u⟩
  · refine key false (by simp [letB]; omega) ?_
    have d1 : ¬ (97 : Int) ≤ b := by omega
    have d2 : (b : Int) ≤ 122 := by omega
    have d3 : ¬ (65 : Int) ≤ b := by omega
    have d4 : (b : Int) ≤ 90 := by omega
    have d5 : ((b : Int) == 95) = false := by rw [beq_eq_false_iff_ne]; omega
    clear key l u
    go_enter Tryz.func35, Tryz.ntmps35
    go_wp2
    go_ret
    simp
  · refine key true (by simp [letB]; omega) ?_
    have d1 : ¬ (97 : Int) ≤ b := by omega
    have d2 : (b : Int) ≤ 122 := by omega
    have d3 : (65 : Int) ≤ b := by omega
    have d4 : (b : Int) ≤ 90 := by omega
    have d5 : ((b : Int) == 95) = false := by rw [beq_eq_false_iff_ne]; omega
    clear key l u
    go_enter Tryz.func35, Tryz.ntmps35
    go_wp2
    go_ret
    simp
  · refine key false (by simp [letB]; omega) ?_
    have d1 : ¬ (97 : Int) ≤ b := by omega
    have d2 : (b : Int) ≤ 122 := by omega
    have d3 : (65 : Int) ≤ b := by omega
    have d4 : ¬ (b : Int) ≤ 90 := by omega
    have d5 : ((b : Int) == 95) = false := by rw [beq_eq_false_iff_ne]; omega
    clear key l u
    go_enter Tryz.func35, Tryz.ntmps35
    go_wp2
    go_ret
    simp
  · refine key true (by simp [letB]; omega) ?_
    have d1 : ¬ (97 : Int) ≤ b := by omega
    have d2 : (b : Int) ≤ 122 := by omega
    have d3 : (65 : Int) ≤ b := by omega
    have d4 : ¬ (b : Int) ≤ 90 := by omega
    have d5 : ((b : Int) == 95) = true := by rw [beq_iff_eq]; omega
    clear key l u
    go_enter Tryz.func35, Tryz.ntmps35
    go_wp2
    go_ret
    simp
  · refine key false (by simp [letB]; omega) ?_
    have d1 : ¬ (97 : Int) ≤ b := by omega
    have d2 : (b : Int) ≤ 122 := by omega
    have d3 : (65 : Int) ≤ b := by omega
    have d4 : ¬ (b : Int) ≤ 90 := by omega
    have d5 : ((b : Int) == 95) = false := by rw [beq_eq_false_iff_ne]; omega
    clear key l u
    go_enter Tryz.func35, Tryz.ntmps35
    go_wp2
    go_ret
    simp
  · refine key true (by simp [letB]; omega) ?_
    have d1 : (97 : Int) ≤ b := by omega
    have d2 : (b : Int) ≤ 122 := by omega
    have d3 : (65 : Int) ≤ b := by omega
    have d4 : ¬ (b : Int) ≤ 90 := by omega
    have d5 : ((b : Int) == 95) = false := by rw [beq_eq_false_iff_ne]; omega
    clear key l u
    go_enter Tryz.func35, Tryz.ntmps35
    go_wp2
    go_ret
    simp
  · refine key false (by simp [letB]; omega) ?_
    have d1 : (97 : Int) ≤ b := by omega
    have d2 : ¬ (b : Int) ≤ 122 := by omega
    have d3 : (65 : Int) ≤ b := by omega
    have d4 : ¬ (b : Int) ≤ 90 := by omega
    have d5 : ((b : Int) == 95) = false := by rw [beq_eq_false_iff_ne]; omega
    clear key l u
    go_enter Tryz.func35, Tryz.ntmps35
    go_wp2
    go_ret
    simp

theorem rdigit_any (b : Nat) (hb : b < 256) (w : World) : Calls Tryz.prog 36 #[.int .u8 b] w fun e w' => e = .returned (.bool (digB b)) ∧ w = w' := by
  have key : ∀ r, (digB b) = r → (Calls Tryz.prog 36 #[.int .u8 b] w fun e w' => e = .returned (.bool r) ∧ w = w') → Calls Tryz.prog 36 #[.int .u8 b] w fun e w' => e = .returned (.bool (digB b)) ∧ w = w' := fun r h k => by rw [h]; exact k
  have hc : (0 ≤ b ∧ b ≤ 47) ∨ (48 ≤ b ∧ b ≤ 57) ∨ (58 ≤ b ∧ b ≤ 255) := by omega
  rcases hc with ⟨l, u⟩ | ⟨l, u⟩ | ⟨l, u⟩
  · refine key false (by simp [digB]; omega) ?_
    have d1 : ¬ (48 : Int) ≤ b := by omega
    have d2 : (b : Int) ≤ 57 := by omega
    clear key l u
    go_enter Tryz.func36, Tryz.ntmps36
    go_wp2
    go_ret
    simp
  · refine key true (by simp [digB]; omega) ?_
    have d1 : (48 : Int) ≤ b := by omega
    have d2 : (b : Int) ≤ 57 := by omega
    clear key l u
    go_enter Tryz.func36, Tryz.ntmps36
    go_wp2
    go_ret
    simp
  · refine key false (by simp [digB]; omega) ?_
    have d1 : (48 : Int) ≤ b := by omega
    have d2 : ¬ (b : Int) ≤ 57 := by omega
    clear key l u
    go_enter Tryz.func36, Tryz.ntmps36
    go_wp2
    go_ret
    simp

/-- The document's name. -/
theorem nameB_not (l : List UInt8) (h : runL l < l.length) : nameB l = false := by
  cases l with
  | nil => rfl
  | cons c r =>
    show (decide ((c :: r).length ≤ 64) && !digB c.toNat && decide (runL (c :: r) = (c :: r).length)) = false
    rw [decide_eq_false (p := runL (c :: r) = (c :: r).length) (by omega), Bool.and_false]
theorem nameB_dig (c : UInt8) (r : List UInt8) (h : digB c.toNat = true) : nameB (c :: r) = false := by
  show (decide ((c :: r).length ≤ 64) && !digB c.toNat && decide (runL (c :: r) = (c :: r).length)) = false
  rw [h]
  simp
theorem nam_split (b : Nat) : namB b = ((letB b || decide (b = 95)) || digB b) := by
  unfold namB
  cases letB b <;> cases digB b <;> simp

set_option maxRecDepth 100000 in
set_option maxHeartbeats 4000000 in
theorem rname_any (s : ByteArray) (hs : s.size ≤ 140737488351232) (w : World) : Calls Tryz.prog 20 #[.string s] w fun e w' => e = .returned (.bool (nameB s.data.toList)) ∧ w = w' := by
  obtain ⟨r, hr⟩ : ∃ r, r = nameB s.data.toList := ⟨_, rfl⟩
  have HR := Lib.hid hr
  rw [← hr]
  clear hr
  have HL := fun (b : Nat) (h : b < 256) w' => Lib.hid (letter_any b h w')
  have HD := fun (b : Nat) (h : b < 256) w' => Lib.hid (rdigit_any b h w')
  go_enter Tryz.func20, Tryz.ntmps20
  go_wp2
  go_loopw [3] (fun i wr => ∃ m : Nat, i = .int .i64 m ∧ m ≤ s.size ∧ Hid (m ≤ runL s.data.toList ∧ (∀ c t, s.data.toList = c :: t → 0 < m → (letB c.toNat || decide (c.toNat = 95)) = true)) ∧ wr = w)
    (fun i _ => s.size - (intOf i).toNat)
  case atStart => exact ⟨0, rfl, Nat.zero_le _, Lib.hid ⟨Nat.zero_le _, fun c t _ h => absurd h (by omega)⟩, rfl⟩
  case round =>
    obtain ⟨m, rfl, hm, hI, rfl⟩ := hrel
    have hlen : runL s.data.toList ≤ s.size := by rw [Lib.size_eq]; exact runL_le _
    have HLn := Lib.hid hlen
    clear hlen
    by_cases hlt : m < s.size
    · have n1 : (m : Int) < (s.size : Int) := by omega
      obtain ⟨b, hb⟩ : ∃ b, b = (s[m]'hlt).toNat := ⟨_, rfl⟩
      have hb256 : b < 256 := by rw [hb]; exact (s[m]'hlt).toNat_lt
      have hi : ∀ h, (s[m]'h).toNat = b := fun h => hb.symm
      have hdr := drop_at s m hlt
      have hrd := runL_drop s.data.toList m hI.out.1
      rw [hdr, runL_cons, hb.symm] at hrd
      have HRD := Lib.hid hrd
      have hl := HL b hb256
      have hd := HD b hb256
      have hns := nam_split b
      by_cases h0 : m = 0
      · subst h0
        have hcons : s.data.toList = s[0] :: s.data.toList.drop 1 := by
          have h := drop_at s 0 hlt
          rw [List.drop_zero] at h
          exact h
        cases hlb : (letB b || decide (b = 95)) with
        | true =>
          rw [hlb] at hl hns
          have HI2 : Hid (0 + 1 ≤ runL s.data.toList ∧ (∀ c t, s.data.toList = c :: t → 0 < 0 + 1 → (letB c.toNat || decide (c.toNat = 95)) = true)) := by
            refine Lib.hid ⟨?_, fun c t hc _ => ?_⟩
            · rw [HRD.out, hns]; simp
            · rw [hcons] at hc
              obtain ⟨rfl, _⟩ := List.cons.inj hc
              rw [← hb]; exact hlb
          clear hb hrd hdr hcons hlb hns
          go_wp2_with (first | (go_at_call 35; refine (hl _).out.mono ?_; rintro e w' ⟨rfl, rfl⟩) | (go_at_call 36; refine (hd _).out.mono ?_; rintro e w' ⟨rfl, rfl⟩))
          go_roundw
          case rel => exact ⟨0 + 1, by go_num, by omega, HI2, by first | rfl | trivial⟩
          case measure => simp [intOf]; omega
        | false =>
          rw [hlb] at hl hns
          have hR : r = false := by
            rw [HR.out]
            cases hdb : digB b with
            | true => rw [hcons]; exact nameB_dig _ _ (by rw [← hb]; exact hdb)
            | false =>
              refine nameB_not _ ?_
              rw [HRD.out, hns, hdb, ← Lib.size_eq]
              simpa using hlt
          subst hR
          clear hb hrd hdr hcons hlb hns HR
          go_wp2_with (first | (go_at_call 35; refine (hl _).out.mono ?_; rintro e w' ⟨rfl, rfl⟩) | (go_at_call 36; refine (hd _).out.mono ?_; rintro e w' ⟨rfl, rfl⟩))
          go_ret
          simp
      · have n2 : ¬ (m : Int) = 0 := by omega
        have n3 : ((m : Int) == 0) = false := by rw [beq_eq_false_iff_ne]; omega
        cases hnb : namB b with
        | true =>
          have HI2 : Hid (m + 1 ≤ runL s.data.toList ∧ (∀ c t, s.data.toList = c :: t → 0 < m + 1 → (letB c.toNat || decide (c.toNat = 95)) = true)) := by
            refine Lib.hid ⟨?_, fun c t hc _ => hI.out.2 c t hc (by omega)⟩
            rw [HRD.out, hnb]
            simp
          rw [hnb] at hns
          cases hlb : (letB b || decide (b = 95)) with
          | true =>
            rw [hlb] at hl
            clear hb hrd hdr hlb hns hnb h0
            go_wp2_with (first | (go_at_call 35; refine (hl _).out.mono ?_; rintro e w' ⟨rfl, rfl⟩) | (go_at_call 36; refine (hd _).out.mono ?_; rintro e w' ⟨rfl, rfl⟩))
            go_roundw
            case rel => exact ⟨m + 1, by go_num, by omega, HI2, by first | rfl | trivial⟩
            case measure => simp [intOf]; omega
          | false =>
            rw [hlb, Bool.false_or] at hns
            rw [hlb] at hl
            rw [← hns] at hd
            clear hb hrd hdr hlb hns hnb h0
            go_wp2_with (first | (go_at_call 35; refine (hl _).out.mono ?_; rintro e w' ⟨rfl, rfl⟩) | (go_at_call 36; refine (hd _).out.mono ?_; rintro e w' ⟨rfl, rfl⟩))
            go_roundw
            case rel => exact ⟨m + 1, by go_num, by omega, HI2, by first | rfl | trivial⟩
            case measure => simp [intOf]; omega
        | false =>
          rw [hnb] at hns
          have hns2 := hns.symm
          rw [Bool.or_eq_false_iff] at hns2
          have hR : r = false := by
            rw [HR.out]
            refine nameB_not _ ?_
            rw [HRD.out, hnb, ← Lib.size_eq]
            simpa using hlt
          subst hR
          rw [hns2.1] at hl
          rw [hns2.2] at hd
          clear hb hrd hdr hns hnb h0 hns2 HR
          go_wp2_with (first | (go_at_call 35; refine (hl _).out.mono ?_; rintro e w' ⟨rfl, rfl⟩) | (go_at_call 36; refine (hd _).out.mono ?_; rintro e w' ⟨rfl, rfl⟩))
          go_ret
          simp
    · obtain rfl : m = s.size := by omega
      have hrun : runL s.data.toList = s.size := by have := HLn.out; have := hI.out.1; omega
      by_cases h0 : s.size = 0
      · have hR : r = false := by rw [HR.out, (list_empty s).1 h0]; rfl
        subst hR
        have n1 : ¬ (0 : Int) < (s.size : Int) := by omega
        clear HR hrun h0
        go_wp2
        go_ret
        simp
      · have hlist : ∃ c t, s.data.toList = c :: t := by
          cases hl : s.data.toList with
          | nil => exact absurd ((list_empty s).2 hl) h0
          | cons c t => exact ⟨c, t, rfl⟩
        obtain ⟨c, t, hct⟩ := hlist
        have hlc := hI.out.2 c t hct (by omega)
        have hdc : digB c.toNat = false := by
          cases hd : digB c.toNat with
          | false => rfl
          | true =>
            have hd2 : 48 ≤ c.toNat ∧ c.toNat ≤ 57 := by simpa [digB] using hd
            simp [letB] at hlc
            omega
        have hR : r = decide (s.size ≤ 64) := by
          rw [HR.out, hct]
          show (decide ((c :: t).length ≤ 64) && !digB c.toNat && decide (runL (c :: t) = (c :: t).length)) = _
          rw [hdc, ← hct, hrun, ← Lib.size_eq]
          simp
        have n1 : (0 : Int) < (s.size : Int) := by omega
        by_cases h64 : s.size ≤ 64
        · have n2 : (s.size : Int) ≤ 64 := by omega
          rw [decide_eq_true h64] at hR
          subst hR
          clear HR hrun h0 hct hlc hdc h64
          go_wp2
          go_ret
          simp
        · have n2 : ¬ (s.size : Int) ≤ 64 := by omega
          rw [decide_eq_false h64] at hR
          subst hR
          clear HR hrun h0 hct hlc hdc h64
          go_wp2
          go_ret
          simp
end Go.Proofs.YtdodkbpagbblmaaGreatDoor
end
section
namespace Go.Proofs.YtdodkbpagbblmaaGreatDoor
open Go Go.RowKit

theorem conv_two (b c : Nat) (g : Nat) (w : World) (h0 : w.cell? ⟨g, 0, none⟩ = some (.int .u8 b)) (h1 : w.cell? ⟨g, 1, none⟩ = some (.int .u8 c)) : (convert 58 9 (.slice (some ⟨g, 0, none⟩) 2 2)).run Tryz.prog w = .ok (.string (bytesStr [b, c])) w := by
  refine run_convert_bytes_arg w 58 5 Tryz.underlying58 Tryz.underlying5 g 0 2 2 [(b : Int), (c : Int)] rfl ?_ 9 Tryz.underlying9
  intro i hi
  have : i = 0 ∨ i = 1 := by omega
  rcases this with rfl | rfl
  · simpa using h0
  · simpa using h1
theorem bytesStr_append (l m : List Nat) : bytesStr l ++ bytesStr m = bytesStr (l ++ m) := by
  unfold bytesStr
  apply ByteArray.ext
  simp [strOfNums]
theorem ba_assoc (a b c : ByteArray) : (a ++ b) ++ c = a ++ (b ++ c) := by
  apply ByteArray.ext; simp [Array.append_assoc]
theorem ext_one (s : ByteArray) (m : Nat) (h : m < s.size) (b : Nat) (hb : b = (s[m]).toNat) : s.extract m (m + 1) = bytesStr [b] := by
  apply WideShapes.bytes_inj
  rw [bytesStr_list, ByteArray.data_extract, Array.toList_extract, List.extract_eq_take_drop]
  have h1 := drop_at s m h
  rw [h1]
  have e : m + 1 - m = 1 := by omega
  rw [e]
  simp [hb]

set_option maxRecDepth 100000 in
set_option maxHeartbeats 4000000 in
theorem quote_any (s : ByteArray) (hs : s.size ≤ 1048576) (w : World) : Calls Tryz.prog 17 #[.string s] w fun e w' => e = .returned (.string (bytesStr (quoteF s.data.toList))) ∧ Below w.heap.size w w' := by
  have HQ := Lib.hid (appendQuoted_any (.slice none 0 0) [] s hs w.heap.size w (World.ownsRow_nil _ _ _ _) (Nat.le_refl _) (by simp))
  obtain ⟨L, hL⟩ : ∃ L, L = quoteF s.data.toList := ⟨_, rfl⟩
  rw [List.nil_append, ← hL] at HQ
  rw [← hL]
  clear hL
  go_enter Tryz.func17, Tryz.ntmps17
  go_wp2_with fail
  refine HQ.out.mono ?_
  rintro e w1 ⟨v, rfl, hown, hk, hB⟩
  obtain ⟨a, c, rfl⟩ := own_slice hown
  have hcv := conv_owns hown
  have HB := Lib.hid hB
  clear hown hk hB HQ
  go_wp2
  go_ret
  exact ⟨rfl, HB.out⟩

set_option maxRecDepth 100000 in
set_option maxHeartbeats 8000000 in
theorem rquote_any (s : ByteArray) (hs : s.size ≤ 1048576) (w : World) : Calls Tryz.prog 18 #[.string s] w fun e w' => e = .returned (.string (bytesStr (quoteF s.data.toList))) ∧ Below w.heap.size w w' := by
  go_enter Tryz.func18, Tryz.ntmps18
  go_wp2
  go_loopw [4, 5] (fun q i wr => ∃ (m : Nat) (t : ByteArray), q = .string t ∧ i = .int .i64 m ∧ m ≤ s.size ∧ t.size ≤ 1 + 4 * m ∧ Hid (t = bytesStr ([34] ++ quoteL (s.data.toList.take m))) ∧ Hid (Below w.heap.size w wr))
    (fun _ i _ => s.size - (intOf i).toNat)
  case atStart => exact ⟨0, ⟨#[34]⟩, rfl, rfl, Nat.zero_le _, Nat.le_refl _, Lib.hid rfl, Below.refl _ _⟩
  case round =>
    obtain ⟨m, t, rfl, rfl, hm, hts, hT, hB⟩ := hrel
    have hszr := hB.out.size
    by_cases hlt : m < s.size
    · have n1 : (m : Int) < (s.size : Int) := by omega
      obtain ⟨b, hb⟩ : ∃ b, b = (s[m]'hlt).toNat := ⟨_, rfl⟩
      have hb256 : b < 256 := by rw [hb]; exact (s[m]'hlt).toNat_lt
      have hi : ∀ h, (s[m]'h).toNat = b := fun h => hb.symm
      have hx1 := ext_one s m hlt b hb
      have HN : Hid (∀ X, X = quoteB b → t ++ bytesStr X = bytesStr ([34] ++ quoteL (s.data.toList.take (m + 1)))) := by
        refine Lib.hid fun X hX => ?_
        rw [take_at s m hlt, quoteL_snoc, ← hb, hT.out, hX, bytesStr_append, List.append_assoc]
      have hql := quoteB_len b
      clear hb hT
      by_cases c10 : b = 10
      · have d1 : ((b : Int) == 10) = true := by rw [beq_iff_eq]; omega
        have HE := Lib.hid (HN.out [92, 110] (by unfold quoteB; simp [c10]))
        have HE2 : Hid (t ++ ⟨#[92, 110]⟩ = bytesStr ([34] ++ quoteL (s.data.toList.take (m + 1)))) := Lib.hid (by rw [← HE.out]; first | rfl | (rw [ba_assoc]; rfl) | (rw [ba_assoc, hx1]; exact congrArg _ (bytesStr_append [92] [b])) | rw [hx1])
        have HZ : Hid ((t ++ ⟨#[92, 110]⟩).size ≤ 1 + 4 * (m + 1)) := Lib.hid (by rw [HE2.out, ← HE.out, ByteArray.size_append, bytesStr_size]; simp; omega)
        clear HN HE hx1 hql
        go_wp2
        go_roundw
        case rel => exact ⟨m + 1, _, rfl, by go_num, by omega, HZ.out, HE2, hB⟩
        case measure => simp [intOf]; omega
      by_cases c9 : b = 9
      · have d1 : ((b : Int) == 10) = false := by rw [beq_eq_false_iff_ne]; omega
        have d2 : ((b : Int) == 9) = true := by rw [beq_iff_eq]; omega
        have HE := Lib.hid (HN.out [92, 116] (by unfold quoteB; simp [c9]))
        have HE2 : Hid (t ++ ⟨#[92, 116]⟩ = bytesStr ([34] ++ quoteL (s.data.toList.take (m + 1)))) := Lib.hid (by rw [← HE.out]; first | rfl | (rw [ba_assoc]; rfl) | (rw [ba_assoc, hx1]; exact congrArg _ (bytesStr_append [92] [b])) | rw [hx1])
        have HZ : Hid ((t ++ ⟨#[92, 116]⟩).size ≤ 1 + 4 * (m + 1)) := Lib.hid (by rw [HE2.out, ← HE.out, ByteArray.size_append, bytesStr_size]; simp; omega)
        clear HN HE hx1 hql
        go_wp2
        go_roundw
        case rel => exact ⟨m + 1, _, rfl, by go_num, by omega, HZ.out, HE2, hB⟩
        case measure => simp [intOf]; omega
      by_cases c13 : b = 13
      · have d1 : ((b : Int) == 10) = false := by rw [beq_eq_false_iff_ne]; omega
        have d2 : ((b : Int) == 9) = false := by rw [beq_eq_false_iff_ne]; omega
        have d3 : ((b : Int) == 13) = true := by rw [beq_iff_eq]; omega
        have HE := Lib.hid (HN.out [92, 114] (by unfold quoteB; simp [c13]))
        have HE2 : Hid (t ++ ⟨#[92, 114]⟩ = bytesStr ([34] ++ quoteL (s.data.toList.take (m + 1)))) := Lib.hid (by rw [← HE.out]; first | rfl | (rw [ba_assoc]; rfl) | (rw [ba_assoc, hx1]; exact congrArg _ (bytesStr_append [92] [b])) | rw [hx1])
        have HZ : Hid ((t ++ ⟨#[92, 114]⟩).size ≤ 1 + 4 * (m + 1)) := Lib.hid (by rw [HE2.out, ← HE.out, ByteArray.size_append, bytesStr_size]; simp; omega)
        clear HN HE hx1 hql
        go_wp2
        go_roundw
        case rel => exact ⟨m + 1, _, rfl, by go_num, by omega, HZ.out, HE2, hB⟩
        case measure => simp [intOf]; omega
      by_cases c34 : b = 34
      · have d1 : ((b : Int) == 10) = false := by rw [beq_eq_false_iff_ne]; omega
        have d2 : ((b : Int) == 9) = false := by rw [beq_eq_false_iff_ne]; omega
        have d3 : ((b : Int) == 13) = false := by rw [beq_eq_false_iff_ne]; omega
        have d4 : ((b : Int) == 34) = true := by rw [beq_iff_eq]; omega
        have HE := Lib.hid (HN.out [92, b] (by unfold quoteB; simp [c34]))
        have HE2 : Hid (t ++ ⟨#[92]⟩ ++ s.extract m (m + 1) = bytesStr ([34] ++ quoteL (s.data.toList.take (m + 1)))) := Lib.hid (by rw [← HE.out]; first | rfl | (rw [ba_assoc]; rfl) | (rw [ba_assoc, hx1]; exact congrArg _ (bytesStr_append [92] [b])) | rw [hx1])
        have HZ : Hid ((t ++ ⟨#[92]⟩ ++ s.extract m (m + 1)).size ≤ 1 + 4 * (m + 1)) := Lib.hid (by rw [HE2.out, ← HE.out, ByteArray.size_append, bytesStr_size]; simp; omega)
        clear HN HE hx1 hql
        go_wp2
        go_roundw
        case rel => exact ⟨m + 1, _, rfl, by go_num, by omega, HZ.out, HE2, hB⟩
        case measure => simp [intOf]; omega
      by_cases c92 : b = 92
      · have d1 : ((b : Int) == 10) = false := by rw [beq_eq_false_iff_ne]; omega
        have d2 : ((b : Int) == 9) = false := by rw [beq_eq_false_iff_ne]; omega
        have d3 : ((b : Int) == 13) = false := by rw [beq_eq_false_iff_ne]; omega
        have d4 : ((b : Int) == 34) = false := by rw [beq_eq_false_iff_ne]; omega
        have d5 : ((b : Int) == 92) = true := by rw [beq_iff_eq]; omega
        have HE := Lib.hid (HN.out [92, b] (by unfold quoteB; simp [c92]))
        have HE2 : Hid (t ++ ⟨#[92]⟩ ++ s.extract m (m + 1) = bytesStr ([34] ++ quoteL (s.data.toList.take (m + 1)))) := Lib.hid (by rw [← HE.out]; first | rfl | (rw [ba_assoc]; rfl) | (rw [ba_assoc, hx1]; exact congrArg _ (bytesStr_append [92] [b])) | rw [hx1])
        have HZ : Hid ((t ++ ⟨#[92]⟩ ++ s.extract m (m + 1)).size ≤ 1 + 4 * (m + 1)) := Lib.hid (by rw [HE2.out, ← HE.out, ByteArray.size_append, bytesStr_size]; simp; omega)
        clear HN HE hx1 hql
        go_wp2
        go_roundw
        case rel => exact ⟨m + 1, _, rfl, by go_num, by omega, HZ.out, HE2, hB⟩
        case measure => simp [intOf]; omega
      by_cases c32 : 32 ≤ b
      · by_cases c127 : b < 127
        · have d1 : ((b : Int) == 10) = false := by rw [beq_eq_false_iff_ne]; omega
          have d2 : ((b : Int) == 9) = false := by rw [beq_eq_false_iff_ne]; omega
          have d3 : ((b : Int) == 13) = false := by rw [beq_eq_false_iff_ne]; omega
          have d4 : ((b : Int) == 34) = false := by rw [beq_eq_false_iff_ne]; omega
          have d5 : ((b : Int) == 92) = false := by rw [beq_eq_false_iff_ne]; omega
          have d6 : (32 : Int) ≤ b := by omega
          have d7 : (b : Int) < 127 := by omega
          have HE := Lib.hid (HN.out [b] (by unfold quoteB; simp [c10, c9, c13, c34, c92, c32, (by omega : b ≤ 126)]))
          have HE2 : Hid (t ++ s.extract m (m + 1) = bytesStr ([34] ++ quoteL (s.data.toList.take (m + 1)))) := Lib.hid (by rw [← HE.out]; first | rfl | (rw [ba_assoc]; rfl) | (rw [ba_assoc, hx1]; exact congrArg _ (bytesStr_append [92] [b])) | rw [hx1])
          have HZ : Hid ((t ++ s.extract m (m + 1)).size ≤ 1 + 4 * (m + 1)) := Lib.hid (by rw [HE2.out, ← HE.out, ByteArray.size_append, bytesStr_size]; simp; omega)
          clear HN HE hx1 hql
          go_wp2
          go_roundw
          case rel => exact ⟨m + 1, _, rfl, by go_num, by omega, HZ.out, HE2, hB⟩
          case measure => simp [intOf]; omega
        · have d1 : ((b : Int) == 10) = false := by rw [beq_eq_false_iff_ne]; omega
          have d2 : ((b : Int) == 9) = false := by rw [beq_eq_false_iff_ne]; omega
          have d3 : ((b : Int) == 13) = false := by rw [beq_eq_false_iff_ne]; omega
          have d4 : ((b : Int) == 34) = false := by rw [beq_eq_false_iff_ne]; omega
          have d5 : ((b : Int) == 92) = false := by rw [beq_eq_false_iff_ne]; omega
          have d6 : (32 : Int) ≤ b := by omega
          have d7 : ¬ (b : Int) < 127 := by omega
          have HE := Lib.hid (HN.out [92, 120, hexC (b / 16), hexC (b % 16)] (by unfold quoteB; simp [c10, c9, c13, c34, c92]; omega))
          have hI1 : ∀ w', (Instr.index 9 (.string ⟨#[48, 49, 50, 51, 52, 53, 54, 55, 56, 57, 97, 98, 99, 100, 101, 102]⟩) (.int .u8 ((b : Int) / 16))).run Tryz.prog w' = .ok (.int .u8 (hexC (b / 16) : Nat)) w' := by
            rw [show ((b : Int) / 16) = ((b / 16 : Nat) : Int) by omega]; exact hex_ix (b / 16) (by omega)
          have hI2 : ∀ w', (Instr.index 9 (.string ⟨#[48, 49, 50, 51, 52, 53, 54, 55, 56, 57, 97, 98, 99, 100, 101, 102]⟩) (.int .u8 ((b : Int) % 16))).run Tryz.prog w' = .ok (.int .u8 (hexC (b % 16) : Nat)) w' := by
            rw [show ((b : Int) % 16) = ((b % 16 : Nat) : Int) by omega]; exact hex_ix (b % 16) (by omega)
          obtain ⟨x, hx⟩ : ∃ x, x = hexC (b / 16) := ⟨_, rfl⟩
          obtain ⟨y, hy⟩ : ∃ y, y = hexC (b % 16) := ⟨_, rfl⟩
          rw [← hx, ← hy] at HE
          rw [← hx] at hI1
          rw [← hy] at hI2
          have HC3 : (convert 58 9 (.slice (some ⟨wr.heap.size, 0, none⟩) 2 2)).run Tryz.prog (wr.alloc (.cells #[.int .u8 x, .int .u8 y] 5)).drew = .ok (.string (bytesStr [x, y])) (wr.alloc (.cells #[.int .u8 x, .int .u8 y] 5)).drew := conv_two x y wr.heap.size _ ((Blk.new wr 5 #[.int .u8 x, .int .u8 y]).cell 0) ((Blk.new wr 5 #[.int .u8 x, .int .u8 y]).cell 1)
          have hz2 : (bytesStr [x, y]).size = 2 := bytesStr_size [x, y]
          have HE2 : Hid (t ++ ⟨#[92, 120]⟩ ++ bytesStr [x, y] = bytesStr ([34] ++ quoteL (s.data.toList.take (m + 1)))) := Lib.hid (by rw [← HE.out, ba_assoc]; exact congrArg _ (bytesStr_append [92, 120] [x, y]))
          have HZ : Hid ((t ++ ⟨#[92, 120]⟩ ++ bytesStr [x, y]).size ≤ 1 + 4 * (m + 1)) := Lib.hid (by rw [HE2.out, ← HE.out, ByteArray.size_append, bytesStr_size]; simp; omega)
          have HB2 : Hid (Below w.heap.size w (wr.alloc (.cells #[.int .u8 x, .int .u8 y] 5)).drew) := Lib.hid (hB.out.alloc hszr _).drew
          clear HN HE hx1 hx hy hql
          go_wp2
          go_region
          all_goals go_wp2
          all_goals go_roundw
          all_goals first
            | exact ⟨m + 1, _, rfl, by go_num, by omega, HZ.out, HE2, HB2⟩
            | (simp [intOf]; omega)
      · have d1 : ((b : Int) == 10) = false := by rw [beq_eq_false_iff_ne]; omega
        have d2 : ((b : Int) == 9) = false := by rw [beq_eq_false_iff_ne]; omega
        have d3 : ((b : Int) == 13) = false := by rw [beq_eq_false_iff_ne]; omega
        have d4 : ((b : Int) == 34) = false := by rw [beq_eq_false_iff_ne]; omega
        have d5 : ((b : Int) == 92) = false := by rw [beq_eq_false_iff_ne]; omega
        have d6 : ¬ (32 : Int) ≤ b := by omega
        have HE := Lib.hid (HN.out [92, 120, hexC (b / 16), hexC (b % 16)] (by unfold quoteB; simp [c10, c9, c13, c34, c92, c32]))
        have hI1 : ∀ w', (Instr.index 9 (.string ⟨#[48, 49, 50, 51, 52, 53, 54, 55, 56, 57, 97, 98, 99, 100, 101, 102]⟩) (.int .u8 ((b : Int) / 16))).run Tryz.prog w' = .ok (.int .u8 (hexC (b / 16) : Nat)) w' := by
          rw [show ((b : Int) / 16) = ((b / 16 : Nat) : Int) by omega]; exact hex_ix (b / 16) (by omega)
        have hI2 : ∀ w', (Instr.index 9 (.string ⟨#[48, 49, 50, 51, 52, 53, 54, 55, 56, 57, 97, 98, 99, 100, 101, 102]⟩) (.int .u8 ((b : Int) % 16))).run Tryz.prog w' = .ok (.int .u8 (hexC (b % 16) : Nat)) w' := by
          rw [show ((b : Int) % 16) = ((b % 16 : Nat) : Int) by omega]; exact hex_ix (b % 16) (by omega)
        obtain ⟨x, hx⟩ : ∃ x, x = hexC (b / 16) := ⟨_, rfl⟩
        obtain ⟨y, hy⟩ : ∃ y, y = hexC (b % 16) := ⟨_, rfl⟩
        rw [← hx, ← hy] at HE
        rw [← hx] at hI1
        rw [← hy] at hI2
        have HC3 : (convert 58 9 (.slice (some ⟨wr.heap.size, 0, none⟩) 2 2)).run Tryz.prog (wr.alloc (.cells #[.int .u8 x, .int .u8 y] 5)).drew = .ok (.string (bytesStr [x, y])) (wr.alloc (.cells #[.int .u8 x, .int .u8 y] 5)).drew := conv_two x y wr.heap.size _ ((Blk.new wr 5 #[.int .u8 x, .int .u8 y]).cell 0) ((Blk.new wr 5 #[.int .u8 x, .int .u8 y]).cell 1)
        have hz2 : (bytesStr [x, y]).size = 2 := bytesStr_size [x, y]
        have HE2 : Hid (t ++ ⟨#[92, 120]⟩ ++ bytesStr [x, y] = bytesStr ([34] ++ quoteL (s.data.toList.take (m + 1)))) := Lib.hid (by rw [← HE.out, ba_assoc]; exact congrArg _ (bytesStr_append [92, 120] [x, y]))
        have HZ : Hid ((t ++ ⟨#[92, 120]⟩ ++ bytesStr [x, y]).size ≤ 1 + 4 * (m + 1)) := Lib.hid (by rw [HE2.out, ← HE.out, ByteArray.size_append, bytesStr_size]; simp; omega)
        have HB2 : Hid (Below w.heap.size w (wr.alloc (.cells #[.int .u8 x, .int .u8 y] 5)).drew) := Lib.hid (hB.out.alloc hszr _).drew
        clear HN HE hx1 hx hy hql
        go_wp2
        go_region
        all_goals go_wp2
        all_goals go_roundw
        all_goals first
          | exact ⟨m + 1, _, rfl, by go_num, by omega, HZ.out, HE2, HB2⟩
          | (simp [intOf]; omega)
    · obtain rfl : m = s.size := by omega
      have HE : Hid (t ++ ⟨#[34]⟩ = bytesStr (quoteF s.data.toList)) := by
        refine Lib.hid ?_
        have h := hT.out
        rw [Lib.size_eq, List.take_length] at h
        rw [h]
        exact bytesStr_append _ [34]
      go_wp2
      go_ret
      exact ⟨congrArg (fun x => Ending.returned (.string x)) HE.out, hB.out⟩
end Go.Proofs.YtdodkbpagbblmaaGreatDoor
end
section
namespace Go.Proofs.YtdodkbpagbblmaaGreatDoor
open Go Go.RowKit

/-- What Lex leaves. -/
def LexP (t : ByteArray) (w : World) (e : Ending) (w' : World) : Prop :=
  Below w.heap.size w w' ∧ ((1048576 < t.size ∧ e = .returned (.tuple #[.slice none 0 0, .int .i64 0, .int .i64 3]))
    ∨ (t.size ≤ 1048576 ∧ ∃ a, (lexAt t.data.toList 0).2 = some a ∧ e = .returned (.tuple #[.slice none 0 0, .int .i64 a, .int .i64 130]))
    ∨ (t.size ≤ 1048576 ∧ (lexAt t.data.toList 0).2 = none ∧ ∃ v, e = .returned (.tuple #[v, .int .i64 0, .int .i64 0]) ∧ w'.ownsRow w.heap.size 35 8 v (lexAt t.data.toList 0).1.length (cellsW (lexAt t.data.toList 0).1)))

theorem own_base {w : World} {b b' e size n : Nat} {v : Value} {xs : List Value} (h : w.ownsRow b e size v n xs) (hb : b' ≤ b) : w.ownsRow b' e size v n xs := by
  refine ⟨h.1, ?_⟩
  rcases h.2 with h1 | ⟨g, cap, cur, h1, h2, h3⟩
  · exact .inl h1
  · exact .inr ⟨g, cap, cur, h1, Nat.le_trans hb h2, h3⟩
theorem cell_eight_new (w : World) (a0 a1 a2 a3 a4 a5 a6 a7 : Value) (t : TypeId) : ∀ j u, [a0, a1, a2, a3, a4, a5, a6, a7][j]? = some u → (w.alloc (.cells #[a0, a1, a2, a3, a4, a5, a6, a7] t)).cell? ((⟨w.heap.size, 0, none⟩ : Addr).add j) = some u :=
  World.news_of_block (cs := #[a0, a1, a2, a3, a4, a5, a6, a7]) (Blk.new w t _)

theorem cell_eight_next (w : World) (o : Obj) (a0 a1 a2 a3 a4 a5 a6 a7 : Value) (t : TypeId) : ∀ j u, [a0, a1, a2, a3, a4, a5, a6, a7][j]? = some u → ((w.alloc o).alloc (.cells #[a0, a1, a2, a3, a4, a5, a6, a7] t)).cell? ((⟨w.heap.size + 1, 0, none⟩ : Addr).add j) = some u := by
  have h := cell_eight_new (w.alloc o) a0 a1 a2 a3 a4 a5 a6 a7 t
  rw [World.size_alloc] at h
  exact h

set_option maxRecDepth 100000 in
set_option maxHeartbeats 8000000 in
theorem lex_any (t : ByteArray) (w : World) (hG : GlobD w) : Calls Tryz.prog 7 #[.string t] w (LexP t w) := by
  by_cases hbig : 1048576 < t.size
  · have d1 : (1048576 : Int) < t.size := by omega
    go_enter Tryz.func7, Tryz.ntmps7
    go_wp2
    go_ret3
    exact ⟨Below.refl _ _, .inl ⟨hbig, rfl⟩⟩
  · have ht : t.size ≤ 1048576 := by omega
    have d1 : ¬ (1048576 : Int) < t.size := by omega
    obtain ⟨i0, hi, hz0, hz1, hz2⟩ := info_parts Tryz.info35
    have hmf : ∀ (fn : Fn) (first cap : Array Value) (w : World), (Instr.makeFunc fn first cap).run Tryz.prog w = .ok (.func fn first cap) w := fun _ _ _ _ => rfl
    have HG := Lib.hid hG
    have hBig := hG.big
    have hr0 : Hid (Rdr (w.alloc (.cells #[.string t, .int .i64 0] 49)) w.heap.size t 0) := Lib.hid (Blk.new w 49 _)
    have hO0 : Hid ((w.alloc (.cells #[.string t, .int .i64 0] 49)).ownsRow (w.heap.size + 1) 35 8 (.slice none 0 0) ([] : List (Wd × Nat)).length (cellsW [])) := World.ownsRow_nil _ _ _ _
    have hB0 : Hid (Below w.heap.size w (w.alloc (.cells #[.string t, .int .i64 0] 49))) := (Below.refl _ w).alloc (Nat.le_refl _) _
    clear hG
    go_enter Tryz.func7, Tryz.ntmps7
    go_wp2_with fail
    go_loopg [5, 8, 9, 10] (t.size) (fun n v a b c wr => ∃ (k : Nat) (ws : List (Wd × Nat)), k ≤ t.size ∧ n = t.size - k ∧ ws.length ≤ k
        ∧ Hid (lexAt t.data.toList 0 = (ws ++ (lexAt (t.data.toList.drop k) k).1, (lexAt (t.data.toList.drop k) k).2))
        ∧ Hid (Rdr wr w.heap.size t k) ∧ Hid (wr.ownsRow (w.heap.size + 1) 35 8 v ws.length (cellsW ws)) ∧ Hid (Below w.heap.size w wr))
    case atStart => exact ⟨0, [], Nat.zero_le _, rfl, Nat.le_refl _, Lib.hid (by simp), hr0, hO0, hB0⟩
    case round =>
      clear hr0 hO0 hB0
      obtain ⟨k, ws, hk, rfl, hws, hL, hR, hO, hB⟩ := hrel
      have hsk := skipL_le (t.data.toList.drop k)
      rw [drop_len] at hsk
      have HT := Lib.hid (taken_any w.heap.size t k ht hk wr (HG.out.below (Nat.le_refl _) hB.out) hR.out hBig)
      have hdd : (t.data.toList.drop k).drop (skipL (t.data.toList.drop k)) = t.data.toList.drop (k + skipL (t.data.toList.drop k)) := List.drop_drop
      have HE : Hid (k + skipL (t.data.toList.drop k) = t.size → lexAt (t.data.toList.drop k) k = ([], none)) := Lib.hid (fun h => lexAt_end _ _ (by rw [hdd, h]; exact List.drop_eq_nil_of_le (by rw [← Lib.size_eq]; omega)))
      have hne0 : k + skipL (t.data.toList.drop k) ≠ t.size → (t.data.toList.drop k).drop (skipL (t.data.toList.drop k)) ≠ [] := fun h e => by
        have := congrArg List.length e
        rw [hdd, drop_len] at this
        simp at this
        omega
      have HBad : Hid (k + skipL (t.data.toList.drop k) ≠ t.size → nextW (t.data.toList.drop (k + skipL (t.data.toList.drop k))) = none → lexAt (t.data.toList.drop k) k = ([], some (k + skipL (t.data.toList.drop k)))) :=
        Lib.hid (fun h h2 => lexAt_bad _ _ (hne0 h) (by rw [hdd]; exact h2))
      have HSt : Hid (∀ p, k + skipL (t.data.toList.drop k) ≠ t.size → nextW (t.data.toList.drop (k + skipL (t.data.toList.drop k))) = some p → lexAt (t.data.toList.drop k) k = ((p.1, k + skipL (t.data.toList.drop k)) :: (lexAt (t.data.toList.drop (k + skipL (t.data.toList.drop k) + p.2)) (k + skipL (t.data.toList.drop k) + p.2)).1, (lexAt (t.data.toList.drop (k + skipL (t.data.toList.drop k) + p.2)) (k + skipL (t.data.toList.drop k) + p.2)).2)) := by
        refine Lib.hid fun p h h2 => ?_
        have := lexAt_step (t.data.toList.drop k) k p (hne0 h) (by rw [hdd]; exact h2)
        rw [hdd, List.drop_drop] at this
        exact this
      obtain ⟨m, hm⟩ : ∃ m, m = k + skipL (t.data.toList.drop k) := ⟨_, rfl⟩
      rw [← hm] at HT HE HBad HSt
      have hmt : m ≤ t.size := by omega
      have hkm : k ≤ m := by omega
      have Hlen : Hid (∀ p, nextW (t.data.toList.drop m) = some p → 1 ≤ p.2 ∧ m + p.2 ≤ t.size) := Lib.hid (fun p h => by
        have := nextW_len _ p h
        rw [drop_len] at this
        omega)
      clear hm hdd hne0 hsk
      go_wp2_with fail
      refine HT.out.mono ?_
      rintro e w1 ⟨hg1, h1⟩
      have hB1 : Hid (Below w.heap.size w w1) := Lib.hid (hB.out.grown hg1 hB.out.size (fun i e => by cases e; exact Nat.le_refl _))
      have hO1 : Hid (w1.ownsRow (w.heap.size + 1) 35 8 u5 ws.length (cellsW ws)) := by
        refine Lib.hid (hO.out.kept hg1 (.inr ?_))
        intro e
        have := (hO.out.lt w.heap.size e).1
        omega
      have hsz1 : w.heap.size < w1.heap.size := by have h := hR.out.lt; have := hg1.size; omega
      clear hg1 HT hO hB
      by_cases hend : m = t.size
      · rw [if_pos hend] at h1
        obtain ⟨rfl, hr1⟩ := h1
        have HN : Hid (lexAt t.data.toList 0 = (ws, none)) := Lib.hid (by rw [hL.out, HE.out hend]; simp)
        clear HE HBad HSt Hlen hL hend hr1
        unfold wordV wordC
        go_wp2
        go_ret3
        refine ⟨hB1.out.alloc (Nat.le_of_lt hsz1) _, .inr (.inr ⟨ht, by rw [HN.out], _, rfl, ?_⟩)⟩
        rw [HN.out]
        exact own_base (hO1.out.alloc _) (Nat.le_succ _)
      · rw [if_neg hend] at h1
        cases hnw : nextW (t.data.toList.drop m) with
        | none =>
          rw [hnw] at h1
          obtain ⟨rfl, hr1⟩ := h1
          have HN : Hid (lexAt t.data.toList 0 = (ws, some m)) := Lib.hid (by rw [hL.out, HBad.out hend hnw]; simp)
          have HR1 := Lib.hid hr1
          have r1 : w1.cell? ⟨w.heap.size, 1, none⟩ = some (.int .i64 (m : Int)) := hr1.cell 1
          clear HE HBad HSt Hlen hL hend hr1 hnw
          unfold wordV wordC
          go_wp2
          go_region
          go_wp2
          go_ret3
          exact ⟨(hB1.out.alloc (Nat.le_of_lt hsz1) _).drew, .inr (.inl ⟨ht, m, by rw [HN.out], rfl⟩)⟩
        | some p =>
          rw [hnw] at h1
          obtain ⟨rfl, hr1⟩ := h1
          have hst := HSt.out p hend hnw
          obtain ⟨hp1, hp2⟩ := Hlen.out p hnw
          have HN : Hid (lexAt t.data.toList 0 = ((ws ++ [(p.1, m)]) ++ (lexAt (t.data.toList.drop (m + p.2)) (m + p.2)).1, (lexAt (t.data.toList.drop (m + p.2)) (m + p.2)).2)) := Lib.hid (by rw [hL.out, hst]; simp)
          have HR1 := Lib.hid hr1
          clear HE HBad HSt Hlen hL hend hr1 hnw hst
          unfold wordV wordC
          go_wp2_with (at_builtin; refine wpList_append_own _ rfl _ _ 23 rfl (w.heap.size + 1) 35 i0 _ 8 72 Tryz.underlying23 hi hz0 hz1 hz2 rfl (by decide) _ _ _ rfl ((hO1.out.alloc _).alloc _) ⟨w1.heap.size + 1, 0, none⟩ 1 1 (wcells (p.1, m)) rfl rfl (cell_eight_next w1 _ _ _ _ _ _ _ _ _ 35) (by simp [wcells, Value.oneCell']) (by unfold maxLen; omega) (by omega) (by simp; omega) ?_; intro v2 w2 hown2 hgrow _)
          have hB2 : Below (w.heap.size + 1) w1 ((w1.alloc (.cells #[.int .i64 p.1.kind, .int .i64 (m : Int), .string p.1.txt, .int .u64 (wdI p.1.set 0), .int .u64 (wdI p.1.set 1), .int .u64 (wdI p.1.set 2), .int .u64 (wdI p.1.set 3), .int .i64 p.1.num] 35)).alloc (.cells #[.int .i64 p.1.kind, .int .i64 (m : Int), .string p.1.txt, .int .u64 (wdI p.1.set 0), .int .u64 (wdI p.1.set 1), .int .u64 (wdI p.1.set 2), .int .u64 (wdI p.1.set 3), .int .i64 p.1.num] 35)) := ((Below.refl _ w1).alloc (by omega) _).alloc (by simp; omega) _
          have hB3 := hB2.grown hgrow (by simp; omega) (fun i e => (hO1.out.lt i e).1)
          have HR2 := Lib.hid (HR1.out.below hB3 (by omega))
          have hB4 := Lib.hid (hB1.out.trans (hB3.mono (by omega)))
          have hO2 : Hid (w2.ownsRow (w.heap.size + 1) 35 8 v2 (ws ++ [(p.1, m)]).length (cellsW (ws ++ [(p.1, m)]))) := by
            refine Lib.hid ?_
            rw [cellsW_snoc, List.length_append]
            exact hown2
          clear hown2 hgrow hB2 hB3 hO1 hB1 HR1
          go_wp2
          go_roundg (t.size - (m + p.2))
          case measure => omega
          case rel => exact ⟨m + p.2, ws ++ [(p.1, m)], by omega, rfl, by simp; omega, HN, HR2, hO2, hB4⟩
end Go.Proofs.YtdodkbpagbblmaaGreatDoor
end
section
namespace Go.Proofs.YtdodkbpagbblmaaGreatDoor
open Go Go.RowKit

/-- What a word has, and nothing else. -/
def bareW (x : Wd) : Wd :=
  if x.kind = 1 ∨ x.kind = 2 ∨ x.kind = 5 then ⟨x.kind, x.txt, 0#256, 0⟩ else if x.kind = 3 then ⟨x.kind, ⟨#[]⟩, x.set, 0⟩ else if x.kind = 4 then ⟨x.kind, ⟨#[]⟩, 0#256, x.num⟩ else ⟨x.kind, ⟨#[]⟩, 0#256, 0⟩
def signT : List UInt8 → Bool
  | [c] => sgnB c.toNat
  | _ => false
/-- Is what a word has as it must be? -/
def okW (x : Wd) : Bool :=
  if x.kind = 1 then nameB x.txt.data.toList else if x.kind = 2 then true else if x.kind = 3 then true else if x.kind = 4 then decide (0 ≤ x.num ∧ x.num ≤ 999999999) else if x.kind = 5 then signT x.txt.data.toList else false
def mayB (x : Wd) : Bool := okW x && sameW x (bareW x)

theorem eq_bare (x y : Wd) (a : Int) (w : World) : (Op.equalIn 10000 35 (.agg (wordC x a)) (.agg (wordC y a))).run Tryz.prog w = .ok (sameW x y) w := by
  have h := eq_wds 9996 x y a a w
  have e : (x.kind == y.kind && (a == a && (x.txt.toList == y.txt.toList && (x.set == y.set && x.num == y.num)))) = sameW x y := by unfold sameW; simp
  rw [e] at h
  exact h

set_option maxRecDepth 100000 in
set_option maxHeartbeats 4000000 in
theorem mayBe_any (x : Wd) (a : Int) (w : World) : Calls Tryz.prog 26 #[wordV x a] w fun e w' => e = .returned (.bool (mayB x)) ∧ Below w.heap.size w w' := by
  obtain ⟨kd, tx, st, nm⟩ := x
  have key : ∀ r, mayB ⟨kd, tx, st, nm⟩ = r → (Calls Tryz.prog 26 #[wordV ⟨kd, tx, st, nm⟩ a] w fun e w' => e = .returned (.bool r) ∧ Below w.heap.size w w') → Calls Tryz.prog 26 #[wordV ⟨kd, tx, st, nm⟩ a] w fun e w' => e = .returned (.bool (mayB ⟨kd, tx, st, nm⟩)) ∧ Below w.heap.size w w' := fun r h k => by rw [h]; exact k
  have HE : ∀ y : Wd, Hid (∀ w', (Op.equalIn 10000 35 (.agg (wordC ⟨kd, tx, st, nm⟩ a)) (.agg (wordC y a))).run Tryz.prog w' = .ok (sameW ⟨kd, tx, st, nm⟩ y) w') := fun y => Lib.hid fun w' => eq_bare ⟨kd, tx, st, nm⟩ y a w'
  obtain ⟨z0, z1, z2, z3⟩ := wz
  by_cases c1 : kd = 1
  · subst c1
    have he := (HE ⟨1, tx, 0#256, 0⟩).out
    have hm : mayB ⟨1, tx, st, nm⟩ = (nameB tx.data.toList && sameW ⟨1, tx, st, nm⟩ ⟨1, tx, 0#256, 0⟩) := rfl
    have HC := fun w' => Lib.hid (name_all tx w')
    generalize sameW ⟨1, tx, st, nm⟩ ⟨1, tx, 0#256, 0⟩ = r at he hm
    generalize nameB tx.data.toList = m at HC hm
    refine key _ hm ?_
    unfold wordC at he
    dsimp only at he
    rw [z0, z1, z2, z3] at he
    clear key HE hm z0 z1 z2 z3
    unfold wordV wordC
    cases m with
    | true =>
      go_enter Tryz.func26, Tryz.ntmps26
      go_wp2
      go_region_with (go_at_call 19; refine (HC _).out.mono ?_; rintro e w3 ⟨rfl, rfl⟩)
      all_goals go_wp2
      all_goals go_ret
      all_goals exact ⟨by simp, by first | exact ((Below.refl _ w).alloc (Nat.le_refl _) _).alloc (by simp) _ | exact (((Below.refl _ w).alloc (Nat.le_refl _) _).alloc (by simp) _).drew | exact (((Below.refl _ w).alloc (Nat.le_refl _) _).alloc (by simp) _).drew.drew⟩
    | false =>
      go_enter Tryz.func26, Tryz.ntmps26
      go_wp2
      go_region_with (go_at_call 19; refine (HC _).out.mono ?_; rintro e w3 ⟨rfl, rfl⟩)
      all_goals go_wp2
      all_goals go_ret
      all_goals exact ⟨by simp, by first | exact ((Below.refl _ w).alloc (Nat.le_refl _) _).alloc (by simp) _ | exact (((Below.refl _ w).alloc (Nat.le_refl _) _).alloc (by simp) _).drew | exact (((Below.refl _ w).alloc (Nat.le_refl _) _).alloc (by simp) _).drew.drew⟩
  by_cases c2 : kd = 2
  · subst c2
    have he := (HE ⟨2, tx, 0#256, 0⟩).out
    have hm : mayB ⟨2, tx, st, nm⟩ = (true && sameW ⟨2, tx, st, nm⟩ ⟨2, tx, 0#256, 0⟩) := rfl
    generalize sameW ⟨2, tx, st, nm⟩ ⟨2, tx, 0#256, 0⟩ = r at he hm
    refine key _ hm ?_
    unfold wordC at he
    dsimp only at he
    rw [z0, z1, z2, z3] at he
    clear key HE hm z0 z1 z2 z3
    unfold wordV wordC
    go_enter Tryz.func26, Tryz.ntmps26
    go_wp2
    go_region
    all_goals go_wp2
    all_goals go_ret
    all_goals exact ⟨by simp, by first | exact ((Below.refl _ w).alloc (Nat.le_refl _) _).alloc (by simp) _ | exact (((Below.refl _ w).alloc (Nat.le_refl _) _).alloc (by simp) _).drew | exact (((Below.refl _ w).alloc (Nat.le_refl _) _).alloc (by simp) _).drew.drew⟩
  by_cases c3 : kd = 3
  · subst c3
    have he := (HE ⟨3, ⟨#[]⟩, st, 0⟩).out
    have hm : mayB ⟨3, tx, st, nm⟩ = (true && sameW ⟨3, tx, st, nm⟩ ⟨3, ⟨#[]⟩, st, 0⟩) := rfl
    generalize sameW ⟨3, tx, st, nm⟩ ⟨3, ⟨#[]⟩, st, 0⟩ = r at he hm
    refine key _ hm ?_
    unfold wordC at he
    dsimp only at he
    clear key HE hm z0 z1 z2 z3
    unfold wordV wordC
    go_enter Tryz.func26, Tryz.ntmps26
    go_wp2
    go_region
    all_goals go_wp2
    all_goals go_ret
    all_goals exact ⟨by simp, by first | exact ((Below.refl _ w).alloc (Nat.le_refl _) _).alloc (by simp) _ | exact (((Below.refl _ w).alloc (Nat.le_refl _) _).alloc (by simp) _).drew | exact (((Below.refl _ w).alloc (Nat.le_refl _) _).alloc (by simp) _).drew.drew⟩
  by_cases c4 : kd = 4
  · subst c4
    have he := (HE ⟨4, ⟨#[]⟩, 0#256, nm⟩).out
    have hm : mayB ⟨4, tx, st, nm⟩ = (decide (0 ≤ nm ∧ nm ≤ 999999999) && sameW ⟨4, tx, st, nm⟩ ⟨4, ⟨#[]⟩, 0#256, nm⟩) := rfl
    generalize sameW ⟨4, tx, st, nm⟩ ⟨4, ⟨#[]⟩, 0#256, nm⟩ = r at he hm
    by_cases d1 : (0 : Int) ≤ nm
    · by_cases d2 : nm ≤ 999999999
      · rw [show decide (0 ≤ nm ∧ nm ≤ 999999999) = true from by simp [d1, d2]] at hm
        refine key _ hm ?_
        unfold wordC at he
        dsimp only at he
        rw [z0, z1, z2, z3] at he
        clear key HE hm z0 z1 z2 z3
        unfold wordV wordC
        go_enter Tryz.func26, Tryz.ntmps26
        go_wp2
        go_region
        all_goals go_wp2
        all_goals go_ret
        all_goals exact ⟨by simp, by first | exact ((Below.refl _ w).alloc (Nat.le_refl _) _).alloc (by simp) _ | exact (((Below.refl _ w).alloc (Nat.le_refl _) _).alloc (by simp) _).drew | exact (((Below.refl _ w).alloc (Nat.le_refl _) _).alloc (by simp) _).drew.drew⟩
      · rw [show decide (0 ≤ nm ∧ nm ≤ 999999999) = false from by simp [d2]] at hm
        refine key _ hm ?_
        unfold wordC at he
        dsimp only at he
        rw [z0, z1, z2, z3] at he
        clear key HE hm z0 z1 z2 z3
        unfold wordV wordC
        go_enter Tryz.func26, Tryz.ntmps26
        go_wp2
        go_region
        all_goals go_wp2
        all_goals go_ret
        all_goals exact ⟨by simp, by first | exact ((Below.refl _ w).alloc (Nat.le_refl _) _).alloc (by simp) _ | exact (((Below.refl _ w).alloc (Nat.le_refl _) _).alloc (by simp) _).drew | exact (((Below.refl _ w).alloc (Nat.le_refl _) _).alloc (by simp) _).drew.drew⟩
    · rw [show decide (0 ≤ nm ∧ nm ≤ 999999999) = false from by simp [d1]] at hm
      have e1 : decide ((0 : Int) ≤ nm) = false := by simp; omega
      refine key _ hm ?_
      unfold wordC at he
      dsimp only at he
      rw [z0, z1, z2, z3] at he
      clear key HE hm z0 z1 z2 z3
      unfold wordV wordC
      go_enter Tryz.func26, Tryz.ntmps26
      go_wp2
      go_region
      all_goals go_wp2
      all_goals go_ret
      all_goals exact ⟨by simp, by first | exact ((Below.refl _ w).alloc (Nat.le_refl _) _).alloc (by simp) _ | exact (((Below.refl _ w).alloc (Nat.le_refl _) _).alloc (by simp) _).drew | exact (((Below.refl _ w).alloc (Nat.le_refl _) _).alloc (by simp) _).drew.drew⟩
  by_cases c5 : kd = 5
  · subst c5
    have he := (HE ⟨5, tx, 0#256, 0⟩).out
    have hm : mayB ⟨5, tx, st, nm⟩ = (signT tx.data.toList && sameW ⟨5, tx, st, nm⟩ ⟨5, tx, 0#256, 0⟩) := rfl
    generalize sameW ⟨5, tx, st, nm⟩ ⟨5, tx, 0#256, 0⟩ = r at he hm
    by_cases d1 : tx.size = 1
    · obtain ⟨b, hb⟩ : ∃ b, b = (tx[0]'(by omega)).toNat := ⟨_, rfl⟩
      have hi : ∀ h, (tx[0]'h).toNat = b := fun h => hb.symm
      have hbl : b < 256 := by rw [hb]; exact (tx[0]'(by omega)).toNat_lt
      have hs : signT tx.data.toList = sgnB b := by
        have h := drop_at tx 0 (by omega)
        rw [List.drop_zero, List.drop_eq_nil_of_le (by rw [← Lib.size_eq]; omega)] at h
        rw [h, hb]
        rfl
      rw [hs] at hm
      have HC := fun w' => Lib.hid (isSgn_any b hbl w')
      have n1 : ((tx.size : Int) == 1) = true := by rw [beq_iff_eq]; omega
      clear hb hs
      cases hg : sgnB b with
      | true =>
        rw [hg] at hm HC
        clear hg
        refine key _ hm ?_
        unfold wordC at he
        dsimp only at he
        rw [z0, z1, z2, z3] at he
        clear key HE hm z0 z1 z2 z3
        unfold wordV wordC
        go_enter Tryz.func26, Tryz.ntmps26
        go_wp2
        go_region_with (go_at_call 42; refine (HC _).out.mono ?_; rintro e w3 ⟨rfl, rfl⟩)
        all_goals go_wp2
        all_goals go_ret
        all_goals exact ⟨by simp, by first | exact ((Below.refl _ w).alloc (Nat.le_refl _) _).alloc (by simp) _ | exact (((Below.refl _ w).alloc (Nat.le_refl _) _).alloc (by simp) _).drew | exact (((Below.refl _ w).alloc (Nat.le_refl _) _).alloc (by simp) _).drew.drew⟩
      | false =>
        rw [hg] at hm HC
        clear hg
        refine key _ hm ?_
        unfold wordC at he
        dsimp only at he
        rw [z0, z1, z2, z3] at he
        clear key HE hm z0 z1 z2 z3
        unfold wordV wordC
        go_enter Tryz.func26, Tryz.ntmps26
        go_wp2
        go_region_with (go_at_call 42; refine (HC _).out.mono ?_; rintro e w3 ⟨rfl, rfl⟩)
        all_goals go_wp2
        all_goals go_ret
        all_goals exact ⟨by simp, by first | exact ((Below.refl _ w).alloc (Nat.le_refl _) _).alloc (by simp) _ | exact (((Below.refl _ w).alloc (Nat.le_refl _) _).alloc (by simp) _).drew | exact (((Below.refl _ w).alloc (Nat.le_refl _) _).alloc (by simp) _).drew.drew⟩
    · have hs : signT tx.data.toList = false := by
        have h : tx.data.toList.length ≠ 1 := by rw [← Lib.size_eq]; exact d1
        match hl : tx.data.toList with
        | [] => rfl
        | [c] => rw [hl] at h; simp at h
        | c :: d :: l => rfl
      rw [hs] at hm
      have n1 : ((tx.size : Int) == 1) = false := by rw [beq_eq_false_iff_ne]; omega
      clear hs
      refine key _ hm ?_
      unfold wordC at he
      dsimp only at he
      rw [z0, z1, z2, z3] at he
      clear key HE hm z0 z1 z2 z3
      unfold wordV wordC
      go_enter Tryz.func26, Tryz.ntmps26
      go_wp2
      go_region
      all_goals go_wp2
      all_goals go_ret
      all_goals exact ⟨by simp, by first | exact ((Below.refl _ w).alloc (Nat.le_refl _) _).alloc (by simp) _ | exact (((Below.refl _ w).alloc (Nat.le_refl _) _).alloc (by simp) _).drew | exact (((Below.refl _ w).alloc (Nat.le_refl _) _).alloc (by simp) _).drew.drew⟩
  · have hm : mayB ⟨kd, tx, st, nm⟩ = false := by unfold mayB okW; simp [c1, c2, c3, c4, c5]
    refine key _ hm ?_
    clear key HE hm z0 z1 z2 z3
    unfold wordV wordC
    go_enter Tryz.func26, Tryz.ntmps26
    go_wp2
    go_ret
    exact ⟨by simp, ((Below.refl _ w).alloc (Nat.le_refl _) _).alloc (by simp) _⟩
end Go.Proofs.YtdodkbpagbblmaaGreatDoor
end
section
namespace Go.Proofs.YtdodkbpagbblmaaGreatDoor
open Go Go.RowKit

/-- What Print says of words. -/
def printR (l : List (Wd × Int)) : ByteArray × Int :=
  if l.all (fun x => mayB x.1) = true then (if 1048576 < (joinW l).length then (⟨#[]⟩, 3) else (bytesStr (joinW l), 0)) else (⟨#[]⟩, 2)

/-- A word that may be is at least as long as what it has. -/
theorem wordF_long (x : Wd) (h : mayB x = true) : x.txt.size ≤ (wordF x).length := by
  have hq : ∀ l : List UInt8, l.length ≤ (quoteL l).length := by
    intro l
    induction l with
    | nil => simp [quoteL]
    | cons c l ih =>
      have := quoteB_pos c.toNat
      simp [quoteL] at ih ⊢
      omega
  obtain ⟨kd, tx, st, nm⟩ := x
  unfold mayB at h
  rw [Bool.and_eq_true] at h
  have hs := h.2
  unfold sameW at hs
  simp only [Bool.and_eq_true, beq_iff_eq] at hs
  have ht := hs.2.1
  by_cases c2 : kd = 2
  · have := hq tx.data.toList
    unfold wordF quoteF
    rw [if_pos c2]
    simp only [List.length_append, List.length_cons, List.length_nil]
    rw [Lib.size_eq]
    omega
  · by_cases c3 : kd = 3
    · have : tx.size = 0 := by
        unfold bareW at ht
        rw [if_neg (by simp; omega), if_pos c3] at ht
        have := congrArg List.length ht
        rw [ByteArray.toList_eq, ByteArray.toList_eq] at this
        rw [Lib.size_eq]
        exact this
      simp only
      omega
    · by_cases c4 : kd = 4
      · have : tx.size = 0 := by
          unfold bareW at ht
          rw [if_neg (by simp; omega), if_neg c3, if_pos c4] at ht
          have := congrArg List.length ht
          rw [ByteArray.toList_eq, ByteArray.toList_eq] at this
          rw [Lib.size_eq]
          exact this
        simp only
        omega
      · unfold wordF
        rw [if_neg c2, if_neg c3, if_neg c4, List.length_map, ← Lib.size_eq]
        exact Nat.le_refl _

theorem wordF_len (x : Wd) (h0 : -9223372036854775808 ≤ x.num) (h1 : x.num ≤ 9223372036854775807) : (wordF x).length ≤ 4 * x.txt.size + 3000 := by
  obtain ⟨kd, tx, st, nm⟩ := x
  unfold wordF
  split
  · have := quoteF_len tx.data.toList
    rw [← Lib.size_eq] at this
    simp only
    omega
  · split
    · have := textS_len st
      simp only
      omega
    · split
      · simp only [List.length_map]
        have := Lib.itoa_length_le nm h0 h1
        omega
      · simp only [List.length_map]
        rw [← Lib.size_eq]
        omega

theorem cell_one_next (w : World) (o : Obj) (a0 : Value) (t : TypeId) : ∀ j u, [a0][j]? = some u → ((w.alloc o).alloc (.cells #[a0] t)).cell? ((⟨w.heap.size + 1, 0, none⟩ : Addr).add j) = some u := by
  have h := cell_one_new (w.alloc o) a0 t
  rw [World.size_alloc] at h
  exact h

set_option maxRecDepth 100000 in
set_option maxHeartbeats 16000000 in
theorem print_any (a : Option Addr) (cap : Nat) (l : List (Wd × Int)) (w : World) (hG : GlobD w) (hl : RowW w a l) (hll : l.length ≤ 1048576) (hx : ∀ x ∈ l, (x.1.txt.size ≤ 9223372036854775807 ∧ (l.length ≤ 1 ∨ x.1.txt.size ≤ 140737488351232)) ∧ -9223372036854775808 ≤ x.1.num ∧ x.1.num ≤ 9223372036854775807) :
    Calls Tryz.prog 13 #[.slice a l.length cap] w fun e w' => e = .returned (.tuple #[.string (printR l).1, .int .i64 (printR l).2]) ∧ Below w.heap.size w w' := by
  obtain ⟨i0, hi, hz0, hz1, hz2⟩ := info_parts Tryz.info5
  have HD := Lib.hid hl
  have HG := Lib.hid hG
  have HX := Lib.hid hx
  obtain ⟨n, hn⟩ : ∃ n, n = l.length := ⟨_, rfl⟩
  have HN : Hid (l.length = n) := hn.symm
  rw [← hn] at hll ⊢
  clear hl hG hx hn
  go_enter Tryz.func13, Tryz.ntmps13
  go_wp2
  go_loopw [11] (fun i wr => ∃ (m : Nat), i = .int .i64 m ∧ m ≤ n ∧ Hid (∀ x ∈ l.take m, mayB x.1 = true) ∧ Hid (Below w.heap.size w wr))
    (fun i _ => n - (intOf i).toNat)
  case atStart => exact ⟨0, rfl, Nat.zero_le _, Lib.hid (by simp), Below.refl _ _⟩
  case round =>
    obtain ⟨m, rfl, hm, hA, hB⟩ := hrel
    have hszr := hB.out.size
    by_cases hlt : m < n
    · have HXm : Hid (l[m]? = some (l[m]'(by rw [HN.out]; exact hlt))) := Lib.hid (List.getElem?_eq_getElem _)
      obtain ⟨x, hx⟩ : ∃ x, l[m]'(by rw [HN.out]; exact hlt) = x := ⟨_, rfl⟩
      rw [hx] at HXm
      clear hx
      have HTk : Hid (l.take (m + 1) = l.take m ++ [x]) := Lib.hid (by rw [List.take_add_one, HXm.out]; rfl)
      obtain ⟨x, ax⟩ := x
      obtain ⟨g, off, rfl, hW⟩ := HD.out m _ HXm.out
      have hW := hW.below hB.out hW.lt
      have bg := hW.lt
      obtain ⟨c0, c1, c2, c3, c4, c5, c6, c7⟩ := hW
      dsimp only at c0 c1 c2 c3 c4 c5 c6 c7
      have HB0 : Hid (Below w.heap.size w (wr.alloc (.cells (wordC x ax) 35))) := hB.out.alloc hszr _
      unfold wordC at HB0
      have HC := fun w' => Lib.hid (mayBe_any x ax w')
      have n1 : (m : Int) < (n : Int) := by omega
      cases hmb : mayB x with
      | true =>
        rw [hmb] at HC
        have HA2 : Hid (∀ y ∈ l.take (m + 1), mayB y.1 = true) := by
          refine Lib.hid ?_
          rw [HTk.out]
          intro y hy
          rw [List.mem_append] at hy
          rcases hy with hy | hy
          · exact hA.out y hy
          · rw [List.mem_singleton] at hy; rw [hy]; exact hmb
        unfold wordV wordC at HC
        clear hA HTk hmb
        go_wp2_with (go_at_call 26; refine (HC _).out.mono ?_; rintro e w3 ⟨rfl, hB3⟩)
        have HB3 := Lib.hid (HB0.out.trans (hB3.mono HB0.out.size))
        clear hB3
        go_wp2
        go_roundw
        case rel => exact ⟨m + 1, by go_num, by omega, HA2, HB3⟩
        case measure => simp [intOf]; omega
      | false =>
        rw [hmb] at HC
        have HR : Hid (printR l = (⟨#[]⟩, 2)) := by
          refine Lib.hid ?_
          unfold printR
          rw [if_neg]
          intro h
          have := List.all_eq_true.1 h _ (List.mem_of_getElem? HXm.out)
          rw [hmb] at this
          cases this
        unfold wordV wordC at HC
        clear hA HTk hmb
        go_wp2_with (go_at_call 26; refine (HC _).out.mono ?_; rintro e w3 ⟨rfl, hB3⟩)
        have HB3 := Lib.hid (HB0.out.trans (hB3.mono HB0.out.size))
        clear hB3
        go_wp2
        go_ret2
        exact ⟨by rw [HR.out]; rfl, HB3.out⟩
    · obtain rfl : m = n := by omega
      have HM : Hid (∀ x ∈ l, mayB x.1 = true) := by
        have := hA.out
        rw [List.take_of_length_le (by rw [HN.out]; exact Nat.le_refl _)] at this
        exact this
      have HP : Hid (printR l = if 1048576 < (joinW l).length then (⟨#[]⟩, 3) else (bytesStr (joinW l), 0)) := by
        refine Lib.hid ?_
        unfold printR
        rw [if_pos]
        rw [List.all_eq_true]
        exact HM.out
      have hO0 : Hid (wr.ownsRow w.heap.size 5 1 (.slice none 0 0) (joinW (l.take 0)).length ((joinW (l.take 0)).map byteV)) := by
        rw [List.take_zero]
        exact World.ownsRow_nil _ _ _ _
      have hB0 := hB
      obtain ⟨wq, hwq⟩ : ∃ wq : World, wq = wr := ⟨_, rfl⟩
      rw [← hwq] at hO0 hB0 ⊢
      clear hA hB hm hszr hwq
      go_wp2
      go_loopw [6, 21] (fun q i wr => ∃ (k : Nat), i = .int .i64 k ∧ k ≤ m ∧ Hid (wr.ownsRow w.heap.size 5 1 q (joinW (l.take k)).length ((joinW (l.take k)).map byteV)) ∧ Hid (Below w.heap.size w wr) ∧ (joinW (l.take k)).length ≤ 5000000)
        (fun _ i _ => m - (intOf i).toNat)
      case atStart => exact ⟨0, rfl, Nat.zero_le _, hO0, hB0, by rw [List.take_zero]; simp [joinW]⟩
      case round =>
        clear hO0 hB0
        obtain ⟨k, rfl, hk, hO, hB, hjm⟩ := hrel
        have hszr := hB.out.size
        have hjl := joinW_take l k
        by_cases hlt2 : k < m
        · have HXm : Hid (l[k]? = some (l[k]'(by rw [HN.out]; exact hlt2))) := Lib.hid (List.getElem?_eq_getElem _)
          obtain ⟨x, hx⟩ : ∃ x, l[k]'(by rw [HN.out]; exact hlt2) = x := ⟨_, rfl⟩
          rw [hx] at HXm
          clear hx
          have hxs := HX.out x (List.mem_of_getElem? HXm.out)
          have hmb := HM.out x (List.mem_of_getElem? HXm.out)
          have HTk : Hid (l.take (k + 1) = l.take k ++ [x]) := Lib.hid (by rw [List.take_add_one, HXm.out]; rfl)
          obtain ⟨x, ax⟩ := x
          dsimp only at hxs hmb
          obtain ⟨⟨hxa, hxb⟩, hxn0, hxn1⟩ := hxs
          have HXB : Hid (k ≠ 0 → x.txt.size ≤ 140737488351232) := Lib.hid fun h => hxb.resolve_left (by rw [HN.out]; omega)
          clear hxb
          have hw1 := wordF_long x hmb
          have hw2 := wordF_len x hxn0 hxn1
          have hjl2 := joinW_take l (k + 1)
          obtain ⟨g, off, rfl, hW⟩ := HD.out k _ HXm.out
          have hW := hW.below hB.out hW.lt
          have bg := hW.lt
          obtain ⟨c0, c1, c2, c3, c4, c5, c6, c7⟩ := hW
          dsimp only at c0 c1 c2 c3 c4 c5 c6 c7
          have n1 : (k : Int) < (m : Int) := by omega
          obtain ⟨sa, sc, rfl⟩ := own_slice hO.out
          have HB0 : Hid (Below w.heap.size w (wr.alloc (.cells (wordC x ax) 35))) := hB.out.alloc hszr _
          have HO0 : Hid ((wr.alloc (.cells (wordC x ax) 35)).ownsRow w.heap.size 5 1 (.slice sa (joinW (l.take k)).length sc) (joinW (l.take k)).length ((joinW (l.take k)).map byteV)) := hO.out.alloc _
          have hsz0 : w.heap.size ≤ (wr.alloc (.cells (wordC x ax) 35)).heap.size := HB0.out.size
          by_cases hk0 : k = 0
          · have hsn : joinW (l.take (k + 1)) = joinW (l.take k) ++ wordF x := by rw [HTk.out, hk0, List.take_zero]; simp [joinW, tailW]
            have hlen := congrArg List.length hsn
            rw [List.length_append] at hlen
            have n0 : ¬ (0 : Int) < (k : Int) := by omega
            have hj0 : (joinW (l.take k)).length ≤ 0 := by rw [hk0]; simp [joinW]
            have HC := fun hsm : x.txt.size ≤ 1048576 => Lib.hid (appendWord_any (.slice sa (joinW (l.take k)).length sc) (joinW (l.take k)) x ax hsm hxn0 hxn1 w.heap.size (wr.alloc (.cells (wordC x ax) 35)) (HG.out.above HG.out.big HB0.out) HG.out.big HO0.out hsz0 (by omega))
            rw [← hsn] at HC
            clear hO HTk hsn hk0
            unfold wordC at HO0 HB0 hsz0 HC
            unfold wordV wordC at HC
            by_cases hbig : 1048576 < (joinW (l.take k)).length + x.txt.size
            · have n2 : (1048576 : Int) < ((joinW (l.take k)).length : Int) + (x.txt.size : Int) := by omega
              have HR : Hid (printR l = (⟨#[]⟩, 3)) := Lib.hid (HP.out.trans (if_pos (by omega)))
              clear HC
              go_wp2
              go_ret2
              exact ⟨by rw [HR.out]; rfl, HB0.out⟩
            · have n2 : ¬ (1048576 : Int) < ((joinW (l.take k)).length : Int) + (x.txt.size : Int) := by omega
              have HC := HC (by omega)
              go_wp2_with (go_at_call 27; refine HC.out.mono ?_; rintro e w3 ⟨v3, rfl, hown3, hk3, hB3⟩)
              have HO3 := Lib.hid hown3
              have HB3 := Lib.hid (HB0.out.trans hB3)
              clear hown3 hk3 hB3 HC HO0 HB0
              go_wp2
              go_roundw
              case rel => exact ⟨k + 1, by go_num, by omega, HO3, HB3, by omega⟩
              case measure => simp [intOf]; omega
          · have hne : l.take k ≠ [] := fun h => by
              have := congrArg List.length h
              rw [List.length_take, HN.out] at this
              simp at this
              omega
            have hsn : joinW (l.take (k + 1)) = joinW (l.take k) ++ [32] ++ wordF x := by rw [HTk.out]; exact joinW_snoc _ _ hne
            have hlen := congrArg List.length hsn
            rw [List.length_append, List.length_append, List.length_singleton] at hlen
            have n0 : (0 : Int) < (k : Int) := by omega
            have hxc := HXB.out hk0
            have HC := fun (hsm : x.txt.size ≤ 1048576) (w1 : World) (v1 : Value) (hB1 : Below w.heap.size w w1) (ho : w1.ownsRow w.heap.size 5 1 v1 ((joinW (l.take k)).length + 1) ((joinW (l.take k)).map byteV ++ [.int .u8 32])) =>
              Lib.hid (appendWord_any v1 (joinW (l.take k) ++ [32]) x ax hsm hxn0 hxn1 w.heap.size w1 (HG.out.above HG.out.big hB1) HG.out.big (by rw [List.length_append, List.map_append]; exact ho) hB1.size (by rw [List.length_append, List.length_singleton]; omega))
            rw [← hsn] at HC
            clear hO HTk hsn hne
            have HW := Lib.hid (Blk.new wr 35 (wordC x ax))
            unfold wordC at HO0 HB0 hsz0 HW
            unfold wordV wordC at HC
            by_cases hbig : 1048576 < (joinW (l.take k)).length + 1 + x.txt.size
            · have n2 : (1048576 : Int) < ((joinW (l.take k)).length : Int) + 1 + (x.txt.size : Int) := by omega
              have HR : Hid (printR l = (⟨#[]⟩, 3)) := Lib.hid (HP.out.trans (if_pos (by omega)))
              clear HC
              go_wp2_with (at_builtin; refine wpList_append_own _ rfl _ _ 58 rfl w.heap.size 5 i0 (.int .u8 0) 1 1 Tryz.underlying58 hi hz0 hz1 hz2 rfl (by decide) _ _ _ rfl (HO0.out.alloc _) ⟨wr.heap.size + 1, 0, none⟩ 1 1 [.int .u8 32] rfl rfl (cell_one_next _ _ _ _) (by simp [Value.oneCell']) (by unfold maxLen; omega) (by omega) (by simp; omega) ?_; intro v1 w1 hown1 hgrow _; have hf2 := own_fin (HO0.out.alloc (.cells #[.int .u8 32] 5)) ((Lib.OthersKept.refl 5 none _).alloc _) ((Below.refl w.heap.size _).alloc hsz0 _) hsz0 hgrow; have hb2 := blk_others HW.out (by decide) hf2.1; have d0 : w1.cell? ⟨wr.heap.size, 0, none⟩ = some (.int .i64 x.kind) := hb2.cell 0; have d1 : w1.cell? ⟨wr.heap.size, 1, none⟩ = some (.int .i64 ax) := hb2.cell 1; have d2 : w1.cell? ⟨wr.heap.size, 2, none⟩ = some (.string x.txt) := hb2.cell 2; have d3 : w1.cell? ⟨wr.heap.size, 3, none⟩ = some (.int .u64 (wdI x.set 0)) := hb2.cell 3; have d4 : w1.cell? ⟨wr.heap.size, 4, none⟩ = some (.int .u64 (wdI x.set 1)) := hb2.cell 4; have d5 : w1.cell? ⟨wr.heap.size, 5, none⟩ = some (.int .u64 (wdI x.set 2)) := hb2.cell 5; have d6 : w1.cell? ⟨wr.heap.size, 6, none⟩ = some (.int .u64 (wdI x.set 3)) := hb2.cell 6; have d7 : w1.cell? ⟨wr.heap.size, 7, none⟩ = some (.int .i64 x.num) := hb2.cell 7; obtain ⟨sb, sd, rfl⟩ := own_slice hown1)
              go_ret2
              exact ⟨by rw [HR.out]; rfl, HB0.out.trans hf2.2⟩
            · have n2 : ¬ (1048576 : Int) < ((joinW (l.take k)).length : Int) + 1 + (x.txt.size : Int) := by omega
              have HC := HC (by omega)
              go_wp2_with (first
                | (at_builtin; refine wpList_append_own _ rfl _ _ 58 rfl w.heap.size 5 i0 (.int .u8 0) 1 1 Tryz.underlying58 hi hz0 hz1 hz2 rfl (by decide) _ _ _ rfl (HO0.out.alloc _) ⟨wr.heap.size + 1, 0, none⟩ 1 1 [.int .u8 32] rfl rfl (cell_one_next _ _ _ _) (by simp [Value.oneCell']) (by unfold maxLen; omega) (by omega) (by simp; omega) ?_; intro v1 w1 hown1 hgrow _; have hf2 := own_fin (HO0.out.alloc (.cells #[.int .u8 32] 5)) ((Lib.OthersKept.refl 5 none _).alloc _) ((Below.refl w.heap.size _).alloc hsz0 _) hsz0 hgrow; have hb2 := blk_others HW.out (by decide) hf2.1; have d0 : w1.cell? ⟨wr.heap.size, 0, none⟩ = some (.int .i64 x.kind) := hb2.cell 0; have d1 : w1.cell? ⟨wr.heap.size, 1, none⟩ = some (.int .i64 ax) := hb2.cell 1; have d2 : w1.cell? ⟨wr.heap.size, 2, none⟩ = some (.string x.txt) := hb2.cell 2; have d3 : w1.cell? ⟨wr.heap.size, 3, none⟩ = some (.int .u64 (wdI x.set 0)) := hb2.cell 3; have d4 : w1.cell? ⟨wr.heap.size, 4, none⟩ = some (.int .u64 (wdI x.set 1)) := hb2.cell 4; have d5 : w1.cell? ⟨wr.heap.size, 5, none⟩ = some (.int .u64 (wdI x.set 2)) := hb2.cell 5; have d6 : w1.cell? ⟨wr.heap.size, 6, none⟩ = some (.int .u64 (wdI x.set 3)) := hb2.cell 6; have d7 : w1.cell? ⟨wr.heap.size, 7, none⟩ = some (.int .i64 x.num) := hb2.cell 7; obtain ⟨sb, sd, rfl⟩ := own_slice hown1)
                | (go_at_call 27; refine (HC _ _ (HB0.out.trans hf2.2) hown1).out.mono ?_; rintro e w3 ⟨v3, rfl, hown3, hk3, hB3⟩))
              have HO3 := Lib.hid hown3
              have HB3 := Lib.hid ((HB0.out.trans hf2.2).trans hB3)
              clear hown3 hk3 hB3 HC HO0 HB0
              go_wp2
              go_roundw
              case rel => exact ⟨k + 1, by go_num, by omega, HO3, HB3, by omega⟩
              case measure => simp [intOf]; omega
        · obtain rfl : k = m := by omega
          have hjt : joinW (l.take k) = joinW l := by rw [List.take_of_length_le (by rw [HN.out]; exact Nat.le_refl _)]
          rw [hjt] at hO
          clear hjt hjl hjm
          obtain ⟨sa, sc, rfl⟩ := own_slice hO.out
          have hcv := conv_owns hO.out
          by_cases hbig : 1048576 < (joinW l).length
          · have n2 : (1048576 : Int) < ((joinW l).length : Int) := by omega
            have HR : Hid (printR l = (⟨#[]⟩, 3)) := Lib.hid (HP.out.trans (if_pos hbig))
            go_wp2
            go_ret2
            exact ⟨by rw [HR.out]; rfl, hB.out⟩
          · have n2 : ¬ (1048576 : Int) < ((joinW l).length : Int) := by omega
            have HR : Hid (printR l = (bytesStr (joinW l), 0)) := Lib.hid (HP.out.trans (if_neg hbig))
            go_wp2
            go_ret2
            exact ⟨by rw [HR.out]; rfl, hB.out⟩
end Go.Proofs.YtdodkbpagbblmaaGreatDoor
end
section
namespace Go.Proofs.YtdodkbpagbblmaaGreatDoor
open Go Go.RowKit

theorem lex_ok (t : ByteArray) (ws : List (Wd × Nat)) (h : lexAt t.data.toList 0 = (ws, none)) (ht : t.size ≤ 1048576) (w : World) (hG : GlobD w) :
    Calls Tryz.prog 7 #[.string t] w fun e w' => ∃ v, e = .returned (.tuple #[v, .int .i64 0, .int .i64 0]) ∧ w'.ownsRow w.heap.size 35 8 v ws.length (cellsW ws) ∧ Below w.heap.size w w' := by
  refine (lex_any t w hG).mono ?_
  rintro e w' ⟨hB, h1 | h1 | h1⟩
  · omega
  · obtain ⟨_, a, ha, _⟩ := h1
    rw [h] at ha
    cases ha
  · obtain ⟨_, _, v, he, ho⟩ := h1
    rw [h] at ho
    exact ⟨v, he, ho, hB⟩
theorem lex_bad (t : ByteArray) (a : Nat) (h : (lexAt t.data.toList 0).2 = some a) (ht : t.size ≤ 1048576) (w : World) (hG : GlobD w) :
    Calls Tryz.prog 7 #[.string t] w fun e w' => e = .returned (.tuple #[.slice none 0 0, .int .i64 a, .int .i64 130]) ∧ Below w.heap.size w w' := by
  refine (lex_any t w hG).mono ?_
  rintro e w' ⟨hB, h1 | h1 | h1⟩
  · omega
  · obtain ⟨_, b, hb, he⟩ := h1
    rw [h] at hb
    cases hb
    exact ⟨he, hB⟩
  · obtain ⟨_, h2, _⟩ := h1
    rw [h] at h2
    cases h2

/-- Words with their places as numbers. -/
def withI (ws : List (Wd × Nat)) : List (Wd × Int) := ws.map fun p => (p.1, (p.2 : Int))
theorem cellsW_at (ws : List (Wd × Nat)) : ∀ (i : Nat) (x : Wd × Nat), ws[i]? = some x → ∀ j, j < 8 → (cellsW ws)[i * 8 + j]? = (wcells x)[j]? := by
  induction ws with
  | nil => intro i x hx; simp at hx
  | cons r rs ih =>
    intro i x hx j hj
    have hc : cellsW (r :: rs) = wcells r ++ cellsW rs := by simp [cellsW]
    rw [hc]
    cases i with
    | zero =>
      simp at hx
      subst hx
      rw [Nat.zero_mul, Nat.zero_add, List.getElem?_append_left (by simp [wcells]; omega)]
    | succ i =>
      have h := ih i x (by simpa using hx) j hj
      rw [List.getElem?_append_right (by simp [wcells]; omega), ← h]
      congr 1
      simp [wcells]
      omega
/-- Words as they lie behind a slice that owns them. -/
theorem own_rowW {w : World} {n₀ : Nat} {v : Value} {ws : List (Wd × Nat)} (h : w.ownsRow n₀ 35 8 v ws.length (cellsW ws)) : ∃ a cap, v = .slice a ws.length cap ∧ RowW w a (withI ws) := by
  rcases h.2 with ⟨rfl, h0⟩ | ⟨g, cap, cur, rfl, _⟩
  · have : ws = [] := List.length_eq_zero_iff.1 h0
    subst this
    exact ⟨none, 0, rfl, fun i x hx => by simp [withI] at hx⟩
  · refine ⟨_, cap, rfl, fun i x hx => ?_⟩
    obtain ⟨y, hy, rfl⟩ : ∃ y, ws[i]? = some y ∧ (y.1, (y.2 : Int)) = x := by
      unfold withI at hx
      rw [List.getElem?_map] at hx
      simpa using hx
    have hi := (List.getElem?_eq_some_iff.1 hy).1
    have hc := cellsW_at ws i y hy
    have k : ∀ j, j < 8 → w.cell? ⟨g, 0 + i * 8 + j, none⟩ = (wcells y)[j]? := fun j hj => by
      rw [Nat.zero_add, h.cellAt (i * 8 + j) (by omega)]; exact hc j hj
    exact ⟨g, 0, rfl, k 0 (by omega), k 1 (by omega), k 2 (by omega), k 3 (by omega), k 4 (by omega), k 5 (by omega), k 6 (by omega), k 7 (by omega)⟩
theorem withI_len (ws : List (Wd × Nat)) : (withI ws).length = ws.length := by simp [withI]

theorem num_any (n : Int) (w : World) : Calls Tryz.prog 9 #[.int .i64 n] w fun e w' => e = .returned (.int .i64 n) ∧ w = w' := by
  go_enter Tryz.func9, Tryz.ntmps9
  go_wp2
  go_ret
  simp
end Go.Proofs.YtdodkbpagbblmaaGreatDoor
end
section
namespace Go.Proofs.YtdodkbpagbblmaaGreatDoor
open Go Go.RowKit

theorem sameW_eq (x y : Wd) : sameW x y = (x.kind == y.kind && (x.txt.data.toList == y.txt.data.toList && (x.set == y.set && x.num == y.num))) := by
  unfold sameW
  rw [ByteArray.toList_eq, ByteArray.toList_eq]

def kSet : BS := (readS [91, 92, 93, 45, 126, 93]).getD 0#256
/-- The words of the law's own text. -/
def kWs : List (Wd × Nat) := [(⟨1, ⟨#[97, 49]⟩, 0#256, 0⟩, 0), (⟨5, ⟨#[61]⟩, 0#256, 0⟩, 2), (⟨2, ⟨#[120]⟩, 0#256, 0⟩, 3), (⟨3, ⟨#[]⟩, kSet, 0⟩, 6), (⟨4, ⟨#[]⟩, 0#256, 2⟩, 12), (⟨5, ⟨#[59]⟩, 0#256, 0⟩, 13)]
theorem k_lex : lexAt (⟨#[97, 49, 61, 34, 120, 34, 91, 92, 93, 45, 126, 93, 50, 59, 47, 47, 120]⟩ : ByteArray).data.toList 0 = (kWs, none) := by kernel_rfl
theorem k_bad : (lexAt (⟨#[98, 32, 34, 97]⟩ : ByteArray).data.toList 0).2 = some 2 := by kernel_rfl
theorem k_name : nameB (⟨#[97, 49]⟩ : ByteArray).data.toList = true := by kernel_rfl
theorem k_may : (withI kWs).all (fun x => mayB x.1) = true := by
  have h : (fun x : Wd × Int => mayB x.1) = fun x => okW x.1 && (x.1.kind == (bareW x.1).kind && (x.1.txt.data.toList == (bareW x.1).txt.data.toList && (x.1.set == (bareW x.1).set && x.1.num == (bareW x.1).num))) := by
    funext x
    unfold mayB
    rw [sameW_eq]
  rw [h]
  decide +kernel
theorem k_join : joinW (withI kWs) = [97, 49, 32, 61, 32, 34, 120, 34, 32, 91, 92, 93, 45, 126, 93, 32, 50, 32, 59] := by decide +kernel
theorem k_print : printR (withI kWs) = (⟨#[97, 49, 32, 61, 32, 34, 120, 34, 32, 91, 92, 93, 45, 126, 93, 32, 50, 32, 59]⟩, 0) := by
  unfold printR
  rw [if_pos k_may, k_join]
  rfl
end Go.Proofs.YtdodkbpagbblmaaGreatDoor
end
