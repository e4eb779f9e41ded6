import Derived.Test.YtdodkbpagbblmaaDoorB
import Derived.Test.YtdodkbpagbblmaaDoorLib
import Derived.Shelf.Strconv.ParseUint10
namespace Go.Proofs.YtdodkbpagbblmaaDoor
open Go Go.RowKit

/-- A digit to the base 16. -/
def hexD (c : Nat) : Option Nat := if 48 ≤ c ∧ c ≤ 57 then some (c - 48) else if 97 ≤ (c ||| 32) ∧ (c ||| 32) ≤ 102 then some ((c ||| 32) - 87) else none
def hexs : Nat → List UInt8 → Option Nat
  | acc, [] => some acc
  | acc, c :: l => match hexD c.toNat with
    | none => none
    | some d => hexs (acc * 16 + d) l

def hexV : Option Nat → Value
  | some n => .tuple #[.int .u64 n, .nilIface]
  | none => .tuple #[.int .u64 0, .iface 103 (.int .i64 2)]

set_option maxHeartbeats 32000000 in
set_option maxRecDepth 100000 in
theorem parseHex_any (t : ByteArray) (h2 : t.size = 2) (w : World) :
    Calls Tryd.prog 89 #[.string t, .int .i64 16, .int .i64 8] w fun e w' => e = .returned (hexV (hexs 0 t.data.toList)) ∧ Below w.heap.size w w' := by
  have hemp : t.toList.isEmpty = false := by
    rw [← decide_eq_emptyBytes]
    exact decide_eq_false (fun h => by rw [h] at h2; cases h2)
  have hcv := Lib.run_convert_string_bytes (P := Tryd.prog) w 9 22 5 t (u := .string) Tryd.underlying9 Tryd.underlying22 Tryd.underlying5
  have hB : ∀ j, j < t.size → (Lib.bytesWorld w 5 t).cell? ⟨w.heap.size, j, none⟩ = some (.int .u8 (t.data.toList.getD j 0).toNat) := fun j hj => Lib.bytesWorld_cell w 5 t j hj
  have hBel : Hid (Below w.heap.size w (Lib.bytesWorld w 5 t)) := Lib.bytesWorld_below w 5 t
  obtain ⟨W1, hW1⟩ : ∃ W1, W1 = Lib.bytesWorld w 5 t := ⟨_, rfl⟩
  rw [← hW1] at hcv hB hBel
  clear hW1
  obtain ⟨bs, hL⟩ : ∃ bs, bs = t.data.toList := ⟨_, rfl⟩
  have hLn : bs.length = t.size := by rw [hL, Lib.size_eq]
  rw [← hL] at hB ⊢
  clear hL
  go_enter Tryd.func89, Tryd.ntmps89
  go_wp2
  go_loop [12, 13, 101] (fun vu vn vi => ∃ (k acc : Nat) (a : Int), vu = .bool false ∧ vn = .int .u64 a ∧ vi = .int .i64 k ∧ k ≤ t.size ∧ Hid (a = (acc : Int) ∧ acc < 16 ^ k ∧ hexs 0 bs = hexs acc (bs.drop k)))
    (fun _ _ vi => t.size - (intOf vi).toNat)
  case atStart => exact ⟨0, 0, 0, rfl, rfl, rfl, by omega, rfl, by omega, rfl⟩
  case round =>
    obtain ⟨k, acc, a, rfl, rfl, rfl, hk, hh⟩ := hrel
    obtain ⟨ha, hacc, hdec⟩ := hh.out
    clear hh
    have hacc2 : acc < 256 ∧ (k < 2 → acc < 16) := by
      have : k = 0 ∨ k = 1 ∨ k = 2 := by omega
      rcases this with rfl | rfl | rfl <;> simp at hacc <;> omega
    obtain ⟨hacc2, hacc3⟩ := hacc2
    by_cases hkn : k < t.size
    · have hc := hB k hkn
      have hdrop : bs.drop k = bs[k]'(by omega) :: bs.drop (k + 1) := List.drop_eq_getElem_cons (by omega)
      have hget : bs.getD k 0 = bs[k]'(by omega) := by simp [List.getD, List.getElem?_eq_getElem (show k < bs.length by omega)]
      rw [hdrop] at hdec
      rw [hget] at hc
      generalize bs[k]'(by omega) = c at hc hdec
      have hc256 : c.toNat < 256 := c.toNat_lt
      have hacc4 : acc < 16 := hacc3 (by omega)
      have a0 : 0 ≤ a := by omega
      have a1 : a < 16 := by omega
      have hpow : ∀ d, d < 16 → acc * 16 + d < 16 ^ (k + 1) := by
        intro d hd
        rw [Nat.pow_succ]
        have : acc + 1 ≤ 16 ^ k := hacc
        generalize 16 ^ k = Q at this
        omega
      clear hB hdrop hget hacc3
      by_cases hdig : 48 ≤ c.toNat ∧ c.toNat ≤ 57
      · obtain ⟨hd0, hd1⟩ := hdig
        have hF : hexs acc (c :: bs.drop (k + 1)) = hexs (acc * 16 + (c.toNat - 48)) (bs.drop (k + 1)) := by simp [hexs, hexD, hd0, hd1]
        have HN : Hid (a * 16 + ((c.toNat : Int) - 48) = ((acc * 16 + (c.toNat - 48) : Nat) : Int) ∧ acc * 16 + (c.toNat - 48) < 16 ^ (k + 1) ∧ hexs 0 bs = hexs (acc * 16 + (c.toNat - 48)) (bs.drop (k + 1))) := Lib.hid ⟨by omega, hpow _ (by omega), hdec.trans hF⟩
        have iov : a * 16 + ((c.toNat : Int) - 48) < 256 := by omega
        clear hacc hacc2 hacc4 hF hdec ha hpow
        go_wp2
        exact ⟨⟨k + 1, acc * 16 + (c.toNat - 48), _, rfl, rfl, by go_num, by omega, HN⟩, by simp [intOf]; omega⟩
      · have hlow : bits .or .u8 (c.toNat : Int) 32 = ((c.toNat ||| 32 : Nat) : Int) := u8_or_nat c.toNat 32 hc256 (by omega)
        have hu : bits .or .u8 95 32 = 127 := by decide
        have hl256 : c.toNat ||| 32 < 256 := Nat.or_lt_two_pow (n := 8) (by omega) (by omega)
        have hD : hexD c.toNat = if 97 ≤ (c.toNat ||| 32) ∧ (c.toNat ||| 32) ≤ 102 then some ((c.toNat ||| 32) - 87) else none := by simp [hexD, hdig]
        have hF : hexs acc (c :: bs.drop (k + 1)) = match hexD c.toNat with | none => none | some d => hexs (acc * 16 + d) (bs.drop (k + 1)) := rfl
        rw [hD] at hF
        clear hD
        generalize c.toNat ||| 32 = lc at hlow hl256 hF
        have hdigI : ¬ (48 ≤ (c.toNat : Int) ∧ (c.toNat : Int) ≤ 57) := by omega
        by_cases hin : 97 ≤ lc ∧ lc ≤ 102
        · rw [if_pos hin] at hF
          obtain ⟨h97, h102⟩ := hin
          have h95 : ¬ (c.toNat : Int) = 95 := by
            intro h; rw [h, hu] at hlow; omega
          have HN : Hid (a * 16 + ((lc : Int) - 97 + 10) = ((acc * 16 + (lc - 87) : Nat) : Int) ∧ acc * 16 + (lc - 87) < 16 ^ (k + 1) ∧ hexs 0 bs = hexs (acc * 16 + (lc - 87)) (bs.drop (k + 1))) := Lib.hid ⟨by omega, hpow _ (by omega), hdec.trans hF⟩
          have iov : a * 16 + ((lc : Int) - 97 + 10) < 256 := by omega
          clear hacc hacc2 hacc4 hF hdec ha hpow
          by_cases h48 : 48 ≤ c.toNat
          · have h57 : ¬ c.toNat ≤ 57 := fun h => hdig ⟨h48, h⟩
            go_wp2_with (go_at_call 98; refine (Tryd.internal_strconv_lower _ _).mono ?_; rintro e w' ⟨rfl, rfl⟩)
            all_goals exact ⟨⟨k + 1, acc * 16 + (lc - 87), _, rfl, rfl, by go_num, by omega, HN⟩, by simp [intOf]; omega⟩
          · go_wp2_with (go_at_call 98; refine (Tryd.internal_strconv_lower _ _).mono ?_; rintro e w' ⟨rfl, rfl⟩)
            all_goals exact ⟨⟨k + 1, acc * 16 + (lc - 87), _, rfl, rfl, by go_num, by omega, HN⟩, by simp [intOf]; omega⟩
        · rw [if_neg hin] at hF
          have HX : hexV (hexs 0 bs) = .tuple #[.int .u64 0, .iface 103 (.int .i64 2)] := by rw [hdec, hF]; rfl
          have HX := Lib.hid HX
          clear hacc hacc2 hacc4 hF hdec ha hpow
          by_cases h48 : 48 ≤ c.toNat
          · have h57 : ¬ c.toNat ≤ 57 := fun h => hdig ⟨h48, h⟩
            go_wp2_with (go_at_call 98; refine (Tryd.internal_strconv_lower _ _).mono ?_; rintro e w' ⟨rfl, rfl⟩)
            all_goals go_ret2
            all_goals exact ⟨by first | rfl | (rw [HX.out]; rfl), hBel.out⟩
          · go_wp2_with (go_at_call 98; refine (Tryd.internal_strconv_lower _ _).mono ?_; rintro e w' ⟨rfl, rfl⟩)
            all_goals go_ret2
            all_goals exact ⟨by first | rfl | (rw [HX.out]; rfl), hBel.out⟩
    · have hkk : k = t.size := by omega
      subst hkk
      have hF : hexs acc (bs.drop t.size) = some acc := by rw [List.drop_eq_nil_of_le (by omega)]; rfl
      rw [hF] at hdec
      subst ha
      clear hacc hacc2 hacc3 hF
      go_wp2
      go_ret2
      exact ⟨rfl, hBel.out⟩
end Go.Proofs.YtdodkbpagbblmaaDoor
