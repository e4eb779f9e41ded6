import Derived.Deep.QuietTactic
import Derived.BigQuiet
import Derived.Deep.DeepCutAuto
import Derived.Test.YtegmoeeeomjkgaaDoorTo
import Derived.Test.YtegmoeeeomjkgaaDoorTh
namespace Go.Proofs.YtegmoeeeomjkgaaDoor
open Go Go.RowKit

/-- What the document's Byte tells. -/
def rbyteV (l : List UInt8) (n : Nat) : Value :=
  if (byteB (l.drop n)).2 = 0 then .tuple #[.int .i64 (-1), .int .i64 n] else .tuple #[.int .i64 (byteB (l.drop n)).1, .int .i64 ((n + (byteB (l.drop n)).2 : Nat) : Int)]

theorem byteT_ne (b : Nat) (hb : b < 256) : (byteT b).map UInt8.ofNat ≠ [92] := by
  have h : ∀ b : Fin 256, (byteT b.val).map UInt8.ofNat ≠ [92] := by decide +kernel
  exact h ⟨b, hb⟩

/-- Where nothing is read. -/
theorem rbyte_none (l : List UInt8) (n : Nat) (hno : ∀ b', b' < 256 → ¬ matchB (l.drop n) b') (h1 : ∀ c r, l.drop n = c :: r → c.toNat ≠ 32)
    (h2 : ∀ c d x y r, l.drop n = c :: d :: x :: y :: r → c.toNat = 92 → d.toNat = 120 → hexD x.toNat ≠ none → hexD y.toNat ≠ none → False) : rbyteV l n = .tuple #[.int .i64 (-1), .int .i64 n] := by
  unfold rbyteV
  by_cases h : (byteB (l.drop n)).2 = 0
  · rw [if_pos h]
  · rcases byteB_match _ h with hm | ⟨c, r, e, hc⟩ | ⟨c, d, x, y, r, e, hc, hd, hx, hy⟩
    · exact absurd hm (hno _ (byteB_lt _).1)
    · exact absurd hc (h1 c r e)
    · exact (h2 c d x y r e hc hd hx hy).elim
theorem rbyte_blank (l : List UInt8) (n : Nat) (c : UInt8) (r : List UInt8) (e : l.drop n = c :: r) (hc : c.toNat = 32) : rbyteV l n = .tuple #[.int .i64 32, .int .i64 ((n + 1 : Nat) : Int)] := by
  unfold rbyteV
  have hs : signB 32 = false := by decide
  have hb : byteB (c :: r) = (32, 1) := by simp [byteB, hc, hs]
  rw [e, hb]; rfl
theorem rbyte_hex (l : List UInt8) (n : Nat) (c d x y : UInt8) (r : List UInt8) (a b : Nat) (e : l.drop n = c :: d :: x :: y :: r) (hc : c.toNat = 92) (hd : d.toNat = 120) (hx : hexD x.toNat = some a) (hy : hexD y.toNat = some b) :
    rbyteV l n = .tuple #[.int .i64 ((16 * a + b : Nat) : Int), .int .i64 ((n + 4 : Nat) : Int)] := by
  unfold rbyteV
  have h1 := hexD_lt _ (UInt8.toNat_lt x) a hx
  have h2 := hexD_lt _ (UInt8.toNat_lt y) b hy
  have hk : hexs 0 [x, y] = some (16 * a + b) := by rw [hexs_two, hx, hy]
  have n1 : signB 120 = false := by decide
  have hb : byteB (c :: d :: x :: y :: r) = (16 * a + b, 4) := by
    simp [byteB, escB, hc, hd, n1, hk]; omega
  rw [e, hb]; rfl

theorem drop_cons (s : ByteArray) (n : Nat) (h : n < s.size) : s.data.toList.drop n = s[n] :: s.data.toList.drop (n + 1) := by
  rw [List.drop_eq_getElem_cons (by rw [← Lib.size_eq]; exact h)]; rfl

theorem match_extract (s : ByteArray) (n b : Nat) (hb : b < 256) (hn : n + (byteT b).length ≤ s.size) : matchB (s.data.toList.drop n) b ↔ (s.extract n (n + (byteT b).length)).data.toList = (bytesStr (byteT b)).data.toList := by
  have hT : ∀ x ∈ byteT b, x < 256 := by
    have h : ∀ b : Fin 256, ∀ x ∈ byteT b.val, x < 256 := by decide +kernel
    exact h ⟨b, hb⟩
  rw [bytesStr_list, ByteArray.data_extract, Array.toList_extract, List.extract_eq_take_drop, Nat.add_sub_cancel_left]
  unfold matchB
  rw [List.prefix_iff_eq_take, ← List.map_take]
  constructor
  · intro h
    have h2 := congrArg (List.map UInt8.ofNat) h
    have h3 : (UInt8.ofNat ∘ UInt8.toNat) = id := by funext x; simp
    rw [List.map_map, h3, List.map_id] at h2
    exact h2.symm
  · intro h
    rw [h, List.map_map]
    have : (byteT b).map (UInt8.toNat ∘ UInt8.ofNat) = (byteT b).map id := by
      apply List.map_congr_left
      intro x hx
      have := hT x hx
      simp; omega
    rw [this]; simp

theorem match_len (s : ByteArray) (n b : Nat) (hn : n ≤ s.size) (h : matchB (s.data.toList.drop n) b) : n + (byteT b).length ≤ s.size := by
  unfold matchB at h
  have := h.length_le
  rw [List.length_map, List.length_drop, ← Lib.size_eq] at this
  omega

set_option maxRecDepth 100000 in
set_option maxHeartbeats 8000000 in
theorem rbyte_any (s : ByteArray) (n : Nat) (hn : n ≤ s.size) (hs : s.size ≤ 2000) (w : World) :
    Calls Tryd.prog 54 #[.string s, .int .i64 n] w fun e w' => e = .returned (rbyteV s.data.toList n) ∧ Below w.heap.size w w' := by
  have HM : Hid (∀ b, b < 256 → matchB (s.data.toList.drop n) b → n + (byteT b).length ≤ s.size ∧ (s.extract n (n + (byteT b).length)).data.toList = (bytesStr (byteT b)).data.toList ∧ rbyteV s.data.toList n = .tuple #[.int .i64 b, .int .i64 ((n + (byteT b).length : Nat) : Int)]) := by
    refine Lib.hid fun b hb h => ?_
    have h1 := match_len s n b hn h
    refine ⟨h1, (match_extract s n b hb h1).1 h, ?_⟩
    have h2 := match_byteB _ b hb h
    have h3 : (byteT b).length ≠ 0 := by
      rcases byteT_cases b with ⟨_, e⟩ | ⟨_, e⟩ | ⟨_, e⟩ | ⟨_, e⟩ | ⟨_, _, e⟩ | e <;> rw [e] <;> simp
    unfold rbyteV
    rw [h2, if_neg h3]
  have HN : Hid (∀ b, b < 256 → ¬ matchB (s.data.toList.drop n) b → s.size < n + (byteT b).length ∨ (s.extract n (n + (byteT b).length)).data.toList ≠ (bytesStr (byteT b)).data.toList) := by
    refine Lib.hid fun b hb h => ?_
    by_cases h1 : n + (byteT b).length ≤ s.size
    · exact .inr fun e => h ((match_extract s n b hb h1).2 e)
    · exact .inl (by omega)
  go_enter Tryd.func54, Tryd.ntmps54
  go_wp2
  go_loopw [6] (fun i wr => ∃ (b : Nat), i = .int .i64 b ∧ b ≤ 256 ∧ Hid (∀ b', b' < b → ¬ matchB (s.data.toList.drop n) b') ∧ Hid (Below w.heap.size w wr))
    (fun i _ => 256 - (intOf i).toNat)
  case atStart => exact ⟨0, rfl, Nat.zero_le _, fun b' h => absurd h (by omega), Below.refl _ _⟩
  case round =>
    obtain ⟨b, rfl, hb, hno, hB⟩ := hrel
    by_cases hlt : b < 256
    · have HO := fun w' => Lib.hid (rone_any b hlt w')
      have HMb := Lib.hid (HM.out b hlt)
      have HNb := Lib.hid (HN.out b hlt)
      have HNe := Lib.hid (byteT_ne b hlt)
      have hXs := bytesStr_size (byteT b)
      have hXl := Lib.hid (bytesStr_list (byteT b))
      have hlen := byteT_len b
      obtain ⟨T, hT⟩ : ∃ T, T = byteT b := ⟨_, rfl⟩
      rw [← hT] at HO HMb HNb HNe hXs hXl hlen
      obtain ⟨X, hX⟩ : ∃ X, X = bytesStr T := ⟨_, rfl⟩
      rw [← hX] at HO HMb HNb hXs hXl
      obtain ⟨m, hm⟩ : ∃ m, m = T.length := ⟨_, rfl⟩
      rw [← hm] at HMb HNb hXs hlen
      have HmT := Lib.hid hm
      clear hT hX hm
      have hcv : IntKind.u8.wrap (b : Int) = (b : Int) := by rw [IntKind.wrap_u8']; omega
      by_cases hmt : matchB (s.data.toList.drop n) b
      · obtain ⟨q1, q2, q3⟩ := HMb.out hmt
        have q4 : ((s.extract n (n + m)).toList == X.toList) = true := by
          rw [ByteArray.toList_eq, ByteArray.toList_eq, q2]; simp
        have q5 : (X.toList == [92]) = false := by
          rw [ByteArray.toList_eq, hXl.out, beq_eq_false_iff_ne]
          exact HNe.out
        have Q3 := Lib.hid q3
        have q6 : (m : Int) ≤ (s.size : Int) - (n : Int) := by omega
        clear q2 q3 HMb HNb HM HN hmt hno
        go_wp2_with fail
        refine (HO _).out.mono ?_
        rintro e w1 ⟨rfl, hB1⟩
        have HB1 := Lib.hid (hB.out.trans (hB1.mono hB.out.size))
        clear HO hB hB1
        go_wp2
        go_ret2
        exact ⟨by rw [Q3.out]; simp, HB1.out⟩
      · have hno2 : Hid (∀ b', b' < b + 1 → ¬ matchB (s.data.toList.drop n) b') := by
          refine Lib.hid fun b' h => ?_
          by_cases e : b' = b
          · subst e; exact hmt
          · exact hno.out b' (by omega)
        rcases HNb.out hmt with h | h
        · have q6 : ¬ (m : Int) ≤ (s.size : Int) - (n : Int) := by omega
          clear h HMb HNb HM HN hmt hno
          go_wp2_with fail
          refine (HO _).out.mono ?_
          rintro e w1 ⟨rfl, hB1⟩
          have HB1 := Lib.hid (hB.out.trans (hB1.mono hB.out.size))
          clear HO hB hB1
          go_wp2
          go_roundw
          case rel => exact ⟨b + 1, by go_num, by omega, hno2, HB1⟩
          case measure => simp [intOf]; omega
        · by_cases hfit : n + m ≤ s.size
          · have q4 : ((s.extract n (n + m)).toList == X.toList) = false := by
              rw [ByteArray.toList_eq, ByteArray.toList_eq, beq_eq_false_iff_ne]; exact h
            have q6 : (m : Int) ≤ (s.size : Int) - (n : Int) := by omega
            clear h HMb HNb HM HN hmt hno
            go_wp2_with fail
            refine (HO _).out.mono ?_
            rintro e w1 ⟨rfl, hB1⟩
            have HB1 := Lib.hid (hB.out.trans (hB1.mono hB.out.size))
            clear HO hB hB1
            go_wp2
            go_roundw
            case rel => exact ⟨b + 1, by go_num, by omega, hno2, HB1⟩
            case measure => simp [intOf]; omega
          · have q6 : ¬ (m : Int) ≤ (s.size : Int) - (n : Int) := by omega
            clear h HMb HNb HM HN hmt hno
            go_wp2_with fail
            refine (HO _).out.mono ?_
            rintro e w1 ⟨rfl, hB1⟩
            have HB1 := Lib.hid (hB.out.trans (hB1.mono hB.out.size))
            clear HO hB hB1
            go_wp2
            go_roundw
            case rel => exact ⟨b + 1, by go_num, by omega, hno2, HB1⟩
            case measure => simp [intOf]; omega
    · obtain rfl : b = 256 := by omega
      clear HM HN
      by_cases hns : n < s.size
      · have hcons := drop_cons s n hns
        by_cases k32 : s[n].toNat = 32
        · have HV := Lib.hid (rbyte_blank _ n _ _ hcons k32)
          have e32 : ((s[n].toNat : Int) == 32) = true := by simp; omega
          clear hcons k32 hno
          go_wp2
          go_ret2
          exact ⟨by rw [HV.out]; simp, hB.out⟩
        · have e32 : ((s[n].toNat : Int) == 32) = false := by simp; omega
          have h1 : ∀ c r, s.data.toList.drop n = c :: r → c.toNat ≠ 32 := by
            intro c r e
            rw [hcons] at e
            cases e
            exact k32
          by_cases h4 : n + 4 ≤ s.size
          · have hcons2 := drop_cons s (n + 1) (by omega)
            have hcons3 := drop_cons s (n + 1 + 1) (by omega)
            have hcons4 := drop_cons s (n + 1 + 1 + 1) (by omega)
            have g4 : (4 : Int) ≤ (s.size : Int) - (n : Int) := by omega
            have hall : s.data.toList.drop n = s[n] :: s[n + 1] :: s[n + 2] :: s[n + 3] :: s.data.toList.drop (n + 4) := by rw [hcons, hcons2, hcons3, hcons4]
            have hx1 : n + 1 < s.size := by omega
            have hx2 : n + 2 < s.size := by omega
            have hx3 : n + 3 < s.size := by omega
            clear hcons hcons2 hcons3 hcons4
            have hneg : (s[n].toNat ≠ 92 ∨ s[n + 1].toNat ≠ 120 ∨ hexD s[n + 2].toNat = none ∨ hexD s[n + 3].toNat = none) → Hid (rbyteV s.data.toList n = .tuple #[.int .i64 (-1), .int .i64 n]) := fun hh => Lib.hid (rbyte_none _ n hno.out h1 (fun c d x y r e hc hd hx hy => by
              rw [hall] at e
              cases e
              rcases hh with h | h | h | h
              · exact h hc
              · exact h hd
              · exact hx h
              · exact hy h))
            by_cases k92 : s[n].toNat = 92
            · have e92 : ((s[n].toNat : Int) == 92) = true := by simp; omega
              by_cases k120 : s[n + 1].toNat = 120
              · have e120 : ((s[n + 1].toNat : Int) == 120) = true := by simp; omega
                have hw2 : IntKind.i64.wrap ((n : Int) + 2) = (n : Int) + 2 := IntWalk.i64_in _ (by omega)
                have hw3 : IntKind.i64.wrap ((n : Int) + 3) = (n : Int) + 3 := IntWalk.i64_in _ (by omega)
                have hp2 : (n : Int) + 2 < (s.size : Int) := by omega
                have hp3 : (n : Int) + 3 < (s.size : Int) := by omega
                have hp4 : (0 : Int) ≤ (n : Int) + 2 := by omega
                have hp5 : (0 : Int) ≤ (n : Int) + 3 := by omega
                have hv2 : ((n : Int) + 2).toNat = n + 2 := by omega
                have hv3 : ((n : Int) + 3).toNat = n + 3 := by omega
                have R2 := fun w' => Lib.hid (rhex_any s[n + 2].toNat (UInt8.toNat_lt _) w')
                have R3 := fun w' => Lib.hid (rhex_any s[n + 3].toNat (UInt8.toNat_lt _) w')
                cases hx : hexD s[n + 2].toNat with
                | none =>
                  have HV := hneg (.inr (.inr (.inl hx)))
                  have z2 : hexZ s[n + 2].toNat = -1 := by unfold hexZ; rw [hx]
                  clear hall h1 hno hneg hx k92 k120 k32
                  go_wp2_with fail
                  go_region_held3 (fun _ => True) (exact trivial) (first | (go_at_call 64; (with_reducible refine (R2 _).out.mono ?_); rintro e w' ⟨rfl, rfl⟩) | (go_at_call 64; (with_reducible refine (R3 _).out.mono ?_); rintro e w' ⟨rfl, rfl⟩))
                  all_goals go_wp2
                  all_goals go_ret2
                  all_goals exact ⟨by rw [HV.out]; rfl, hB.out.drew⟩
                | some a =>
                  have ha := hexD_lt _ (UInt8.toNat_lt _) a hx
                  have z2 : hexZ s[n + 2].toNat = (a : Int) := by unfold hexZ; rw [hx]
                  have z2a : (0 : Int) ≤ (a : Int) := by omega
                  have z2b : (a : Int) < 16 := by omega
                  cases hy : hexD s[n + 3].toNat with
                  | none =>
                    have HV := hneg (.inr (.inr (.inr hy)))
                    have z3 : hexZ s[n + 3].toNat = -1 := by unfold hexZ; rw [hy]
                    clear hall h1 hno hneg hx hy k92 k120 k32 ha
                    go_wp2_with fail
                    go_region_held3 (fun _ => True) (exact trivial) (first | (go_at_call 64; (with_reducible refine (R2 _).out.mono ?_); rintro e w' ⟨rfl, rfl⟩) | (go_at_call 64; (with_reducible refine (R3 _).out.mono ?_); rintro e w' ⟨rfl, rfl⟩))
                    all_goals go_wp2
                    all_goals go_ret2
                    all_goals exact ⟨by rw [HV.out]; rfl, hB.out.drew⟩
                  | some b =>
                    have hb' := hexD_lt _ (UInt8.toNat_lt _) b hy
                    have z3 : hexZ s[n + 3].toNat = (b : Int) := by unfold hexZ; rw [hy]
                    have z3a : (0 : Int) ≤ (b : Int) := by omega
                    have z3b : (b : Int) < 16 := by omega
                    have HV := Lib.hid (rbyte_hex _ n _ _ _ _ _ a b hall k92 k120 hx hy)
                    clear hall h1 hno hneg hx hy k92 k120 k32 ha hb'
                    go_wp2_with fail
                    go_region_held3 (fun _ => True) (exact trivial) (first | (go_at_call 64; (with_reducible refine (R2 _).out.mono ?_); rintro e w' ⟨rfl, rfl⟩) | (go_at_call 64; (with_reducible refine (R3 _).out.mono ?_); rintro e w' ⟨rfl, rfl⟩))
                    all_goals go_wp2
                    all_goals go_ret2
                    all_goals exact ⟨by rw [HV.out]; simp, hB.out.drew⟩
              · have HV := hneg (.inr (.inl k120))
                have e120 : ((s[n + 1].toNat : Int) == 120) = false := by simp; omega
                clear hall h1 hno hneg k92 k120 k32
                go_wp2
                go_ret2
                exact ⟨by rw [HV.out]; rfl, hB.out⟩
            · have HV := hneg (.inl k92)
              have e92 : ((s[n].toNat : Int) == 92) = false := by simp; omega
              clear hall h1 hno hneg k92 k32
              go_wp2
              go_ret2
              exact ⟨by rw [HV.out]; rfl, hB.out⟩
          · have HV := Lib.hid (rbyte_none _ n hno.out h1 (fun c d x y r e _ _ _ _ => by
              have := congrArg List.length e
              rw [List.length_drop, ← Lib.size_eq] at this
              simp at this
              omega))
            have g4 : ¬ (4 : Int) ≤ (s.size : Int) - (n : Int) := by omega
            clear hcons k32 hno h1
            go_wp2
            go_ret2
            exact ⟨by rw [HV.out]; rfl, hB.out⟩
      · have HV := Lib.hid (rbyte_none s.data.toList n hno.out (fun c r e => by rw [List.drop_eq_nil_of_le (by rw [← Lib.size_eq]; omega)] at e; cases e) (fun c d x y r e => by rw [List.drop_eq_nil_of_le (by rw [← Lib.size_eq]; omega)] at e; cases e))
        have g4 : ¬ (4 : Int) ≤ (s.size : Int) - (n : Int) := by omega
        clear hno
        go_wp2
        go_ret2
        exact ⟨by rw [HV.out]; rfl, hB.out⟩
end Go.Proofs.YtegmoeeeomjkgaaDoor
