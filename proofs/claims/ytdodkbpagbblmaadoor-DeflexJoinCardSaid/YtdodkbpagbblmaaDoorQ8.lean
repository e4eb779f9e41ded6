import Derived.Test.YtdodkbpagbblmaaDoorQ7
namespace Go.Proofs.YtdodkbpagbblmaaDoor
open Go Go.RowKit

/-- The set at a text's beginning. -/
def setO (l : List UInt8) : Option BS := readS (l.take (setL l))
def SetP (B : Nat) (t : ByteArray) (k q : Nat) (w : World) (v : Option BS) (e : Ending) (w' : World) : Prop :=
  w.grownBy w' (some B) ∧ match v with
    | some s => e = .returned (vset s) ∧ Rdr w' B t (k + q)
    | none => e = .panicked gone ∧ Rdr w' B t k

theorem grown_next {w w1 w2 : World} {B : Nat} (h : w.grownBy w1 (some B)) (hB : Below w1.heap.size w1 w2) : w.grownBy w2 (some B) := h.andThen (grown_of_below' hB (some B)) (fun _ e => .inr e)

theorem grown_new {w W : World} {B b : Nat} (h : w.grownBy W (some B)) (hb : w.heap.size ≤ b) (i : Nat) (v : Value) : w.grownBy (W.setCell ⟨b, i, none⟩ v) (some B) :=
  ⟨h.os, h.tape, h.output, by simpa using h.size, fun k hk hne => by rw [Below.heap_setCell W ⟨b, i, none⟩ v k (by simp; omega)]; exact h.block k hk hne⟩

set_option maxRecDepth 100000 in
set_option maxHeartbeats 8000000 in
theorem readSet_any (B : Nat) (t : ByteArray) (k : Nat) (ht : t.size ≤ 1048576) (hk : k ≤ t.size) (w : World) (hG : GlobD w) (hB : Rdr w B t k) :
    Calls Tryd.prog 26 #[.pointer (some ⟨B, 0, none⟩)] w (SetP B t k (setL (t.data.toList.drop k)) w (setO (t.data.toList.drop k))) := by
  have c0 : w.cell? ⟨B, 0, none⟩ = some (.string t) := hB.cell 0
  have c1 : w.cell? ⟨B, 1, none⟩ = some (.int .i64 (k : Int)) := hB.cell 1
  have hltB := hB.lt
  have n2 : (0 : Int) ≤ (k : Int) := by omega
  have n3 : (k : Int) ≤ (t.size : Int) := by omega
  have hsz : (t.extract k t.size).size = t.size - k := by rw [ByteArray.size_extract]; omega
  have hls : (t.extract k t.size).data.toList = t.data.toList.drop k := extract_drop t k
  have hrl := setL_le _ (t.data.toList.drop k) (Nat.le_refl _)
  rw [drop_len] at hrl
  have HR := setLength_any (t.extract k t.size) (by omega)
  rw [hls] at HR
  obtain ⟨q, hq⟩ : ∃ q, q = setL (t.data.toList.drop k) := ⟨_, rfl⟩
  have hso : setO (t.data.toList.drop k) = readS ((t.data.toList.drop k).take q) := by unfold setO; rw [hq]
  rw [← hq] at hrl HR ⊢
  rw [hso]
  have HRd := fun W (hW : Glob W) => read_any ((t.extract k t.size).extract 0 q) (by rw [ByteArray.size_extract]; omega) W hW
  rw [rest_list] at HRd
  obtain ⟨o, ho⟩ : ∃ o, o = readS ((t.data.toList.drop k).take q) := ⟨_, rfl⟩
  rw [← ho] at HRd ⊢
  have HR := fun w' => Lib.hid (HR w')
  have n4 : (q : Int) ≤ ((t.size - k : Nat) : Int) := by omega
  have n5 : (0 : Int) ≤ (q : Int) := by omega
  have hB1 : Below w.heap.size w (w.alloc (.cells #[.int .u64 0, .int .u64 0, .int .u64 0, .int .u64 0] 36)).drew := ((Below.refl _ w).alloc (Nat.le_refl _) _).drew
  obtain ⟨wa, hwa⟩ : ∃ wa, wa = (w.alloc (.cells #[.int .u64 0, .int .u64 0, .int .u64 0, .int .u64 0] 36)).drew := ⟨_, rfl⟩
  have HGa := Lib.hid (hG.below (Nat.le_refl _) hB1)
  have HRa := Lib.hid (Blk.below hB hB1 hB.lt)
  have Hga := Lib.hid (grown_of_below' hB1 (some B))
  have HZ : Hid (Blk (w.alloc (.cells #[.int .u64 0, .int .u64 0, .int .u64 0, .int .u64 0] 36)).drew w.heap.size 36 #[.int .u64 0, .int .u64 0, .int .u64 0, .int .u64 0]) := Lib.hid (Blk.new w 36 _)
  rw [← hwa] at HGa HRa Hga HZ
  have HWa := Lib.hid hwa
  have HRd := Lib.hid HRd
  clear hq hls hB ho hso hB1 hwa hG
  cases o with
  | none =>
    go_enter Tryd.func26, Tryd.ntmps26
    go_wp2
    go_region
    rw [← HWa.out]
    go_wp2_with (go_at_call 41; refine (HR _).out.mono ?_; rintro e w' ⟨rfl, rfl⟩)
    refine (HRd.out wa HGa.out.base).mono ?_
    rintro e w1 ⟨rfl, hB1⟩
    have HR1 := Lib.hid (Blk.below HRa.out hB1 HRa.out.lt)
    have Hg1 := Lib.hid (grown_next Hga.out hB1)
    clear hB1
    unfold readV
    go_wp2_with (go_at_call 29; refine (giveUp_any _ _).mono ?_; rintro e w' ⟨rfl, rfl⟩)
    exact ⟨rfl, grown_next Hg1.out ((Below.refl _ w1).alloc (Nat.le_refl _) _), rfl, HR1.out.alloc _⟩
  | some s =>
    go_enter Tryd.func26, Tryd.ntmps26
    go_wp2
    go_region
    rw [← HWa.out]
    go_wp2_with (go_at_call 41; refine (HR _).out.mono ?_; rintro e w' ⟨rfl, rfl⟩)
    refine (HRd.out wa HGa.out.base).mono ?_
    rintro e w1 ⟨rfl, hB1⟩
    have HR1 := Lib.hid (Blk.below HRa.out hB1 HRa.out.lt)
    have Hg1 := Lib.hid (grown_next Hga.out hB1)
    have HZ1 := Lib.hid (Blk.below HZ.out hB1 HZ.out.lt)
    clear hB1
    have r1 : w1.cell? ⟨B, 1, none⟩ = some (.int .i64 (k : Int)) := HR1.out.cell 1
    have rf := HR1.out.frozen 1
    have rl := HR1.out.lt
    have zl := HZ1.out.lt
    have z0 : w1.cell? ⟨w.heap.size, 0, none⟩ = some (.int .u64 0) := HZ1.out.cell 0
    have z1 : w1.cell? ⟨w.heap.size, 1, none⟩ = some (.int .u64 0) := HZ1.out.cell 1
    have z2 : w1.cell? ⟨w.heap.size, 2, none⟩ = some (.int .u64 0) := HZ1.out.cell 2
    have z3 : w1.cell? ⟨w.heap.size, 3, none⟩ = some (.int .u64 0) := HZ1.out.cell 3
    have y0 := HZ1.out.frozen 0
    have y1 := HZ1.out.frozen 1
    have y2 := HZ1.out.frozen 2
    have y3 := HZ1.out.frozen 3
    have hne : ¬ B = w.heap.size := by omega
    have hne2 : ¬ w.heap.size = B := by omega
    unfold readV vset
    go_wp2
    refine bodyPost_ret (v := vset s) (by simp [results, Tryd.results26, go_sem, vset, z0, z1, z2, z3, y0, y1, y2, y3, zl, rl, hne, hne2]) rfl ⟨?_, rfl, ?_⟩
    · have g1 := grown_set Hg1.out 1 (.int .i64 ((k : Int) + q))
      have g2 := grown_new (grown_new (grown_new (grown_new g1 (Nat.le_refl _) 0 (.int .u64 (wdI s 0))) (Nat.le_refl _) 1 (.int .u64 (wdI s 1))) (Nat.le_refl _) 2 (.int .u64 (wdI s 2))) (Nat.le_refl _) 3 (.int .u64 (wdI s 3))
      exact grown_next g2 ((Below.refl _ _).alloc (Nat.le_refl _) _)
    · have h1 := HR1.out.set 1 (.int .i64 ((k : Int) + q))
      exact ((((h1.other (a := ⟨w.heap.size, 0, none⟩) hne _).other (a := ⟨w.heap.size, 1, none⟩) hne _).other (a := ⟨w.heap.size, 2, none⟩) hne _).other (a := ⟨w.heap.size, 3, none⟩) hne _).alloc _

/-! ### texts between two quotes -/
/-- The bytes of a text up to the quote, and how far it goes, the quote with it. -/
def textF : Nat → List UInt8 → Option (List Nat × Nat)
  | 0, _ => none
  | f + 1, l => if Lib.hasPrefix l [34] then some ([], 1) else if (byteD l).2 = 0 then none else (textF f (l.drop (byteD l).2)).map fun p => ((byteD l).1 :: p.1, (byteD l).2 + p.2)
def textO (l : List UInt8) : Option (List Nat × Nat) := textF (l.length + 1) l
theorem escD_lt (l : List UInt8) : (escD l).1 < 256 ∧ (escD l).2 ≤ l.length := by
  unfold escD
  split
  · rename_i b r
    have hb := b.toNat_lt
    split
    · simp
    · split
      · simp
      · split
        · simp
        · split
          · simp; omega
          · split
            · rename_i h
              split
              · simp; omega
              · simp
            · simp
  · simp
theorem byteD_lt (l : List UInt8) : (byteD l).1 < 256 ∧ (byteD l).2 ≤ l.length := by
  unfold byteD
  split
  · simp
  · rename_i c r
    have := escD_lt (c :: r)
    have hb := c.toNat_lt
    split
    · exact this
    · split
      · simp; omega
      · simp
theorem textF_more : ∀ (n : Nat) (l : List UInt8), l.length ≤ n → ∀ f, l.length + 1 ≤ f → textF f l = textF (l.length + 1) l := by
  intro n
  induction n with
  | zero =>
    intro l hl f hf
    have : l = [] := List.length_eq_zero_iff.1 (by omega)
    subst this
    obtain ⟨g, rfl⟩ : ∃ g, f = g + 1 := ⟨f - 1, by simp at hf; omega⟩
    rfl
  | succ n ih =>
    intro l hl f hf
    obtain ⟨g, rfl⟩ : ∃ g, f = g + 1 := ⟨f - 1, by omega⟩
    unfold textF
    split
    · rfl
    · split
      · rfl
      · have h1 := (byteD_lt l).2
        have hd : (l.drop (byteD l).2).length + 1 ≤ l.length := by rw [List.length_drop]; omega
        rw [ih _ (by omega) g (by omega), ih _ (by omega) l.length hd]
theorem textO_end (l : List UInt8) (h : Lib.hasPrefix l [34] = true) : textO l = some ([], 1) := by
  unfold textO textF; rw [if_pos h]
theorem textO_bad (l : List UInt8) (h : Lib.hasPrefix l [34] = false) (h0 : (byteD l).2 = 0) : textO l = none := by
  unfold textO textF; simp [h, h0]
theorem textO_step (l : List UInt8) (h : Lib.hasPrefix l [34] = false) (h0 : (byteD l).2 ≠ 0) : textO l = (textO (l.drop (byteD l).2)).map fun p => ((byteD l).1 :: p.1, (byteD l).2 + p.2) := by
  have h1 := (byteD_lt l).2
  have hd : (l.drop (byteD l).2).length + 1 ≤ l.length := by rw [List.length_drop]; omega
  unfold textO
  conv => lhs; unfold textF
  simp only [h, h0, Bool.false_eq_true, if_false]
  rw [textF_more l.length _ (by omega) l.length hd]
end Go.Proofs.YtdodkbpagbblmaaDoor
