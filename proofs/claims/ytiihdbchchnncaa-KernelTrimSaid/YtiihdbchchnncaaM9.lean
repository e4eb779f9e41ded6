import Derived.Laws.BytesArg
import Derived.Test.YtiihdbchchnncaaM6
section
namespace Go.Proofs.Ytiihdbchchnncaa
open Go Go.RowKit

/-- How many trees stand in one, so deep down. -/
def tot : Nat → TreeM → Nat
  | 0, _ => 0
  | d + 1, .node _ _ _ _ kids => 1 + (kids.map (tot d)).sum
theorem nest_mono (d : Nat) : ∀ (t : TreeM), nestB d t = true → ∀ e, d ≤ e → nestB e t = true := by
  induction d with
  | zero => intro t h; cases h
  | succ d ih =>
    rintro ⟨p, b, ka, kc, kids⟩ h e he
    obtain ⟨e, rfl⟩ : ∃ e', e = e' + 1 := ⟨e - 1, by omega⟩
    rw [nestB, List.all_eq_true] at h ⊢
    exact fun k hk => ih k (h k hk) e (by omega)
theorem map_sum_congr {α : Type} {f g : α → Nat} {l : List α} (h : ∀ x, x ∈ l → f x = g x) : (l.map f).sum = (l.map g).sum := by
  rw [List.map_congr_left h]
theorem tot_mono (d : Nat) : ∀ (t : TreeM), nestB d t = true → ∀ e, d ≤ e → tot e t = tot d t := by
  induction d with
  | zero => intro t h; cases h
  | succ d ih =>
    rintro ⟨p, b, ka, kc, kids⟩ h e he
    obtain ⟨e, rfl⟩ : ∃ e', e = e' + 1 := ⟨e - 1, by omega⟩
    rw [nestB, List.all_eq_true] at h
    rw [tot, tot, map_sum_congr (fun k hk => ih k (h k hk) e (by omega))]
theorem sum_mem {α : Type} (f : α → Nat) : ∀ (l : List α) (x : α), x ∈ l → f x ≤ (l.map f).sum := by
  intro l
  induction l with
  | nil => intro x h; simp at h
  | cons y r ih =>
    intro x h
    rw [List.map_cons, List.sum_cons]
    rcases List.mem_cons.1 h with rfl | h
    · omega
    · have := ih x h; omega
theorem sum_len {α : Type} (f : α → Nat) : ∀ (l : List α), (∀ x, x ∈ l → 1 ≤ f x) → l.length ≤ (l.map f).sum := by
  intro l
  induction l with
  | nil => intro _; simp
  | cons y r ih =>
    intro h
    rw [List.map_cons, List.sum_cons, List.length_cons]
    have := ih (fun x hx => h x (by simp [hx]))
    have := h y (by simp)
    omega
theorem tot_pos (d : Nat) (t : TreeM) (h : nestB d t = true) : 1 ≤ tot d t := by
  cases d with
  | zero => cases h
  | succ d => obtain ⟨p, b, ka, kc, kids⟩ := t; rw [tot]; omega
theorem tot_fit {w : World} (m : Nat) : ∀ (t : TreeM), nestB m t = true → tot m t ≤ 5000 → (∀ d, ATree w d t) → ∀ d, TFit d t := by
  induction m with
  | zero => intro t h; cases h
  | succ m ih =>
    rintro ⟨p, b, ka, kc, kids⟩ h ht ha d
    rw [nestB, List.all_eq_true] at h
    rw [tot] at ht
    cases d with
    | zero => trivial
    | succ d =>
      have hl := sum_len (tot m) kids (fun k hk => tot_pos m k (h k hk))
      obtain ⟨_, hb, _⟩ := ha 1
      refine ⟨by omega, ⟨b.toNat, by omega, by omega⟩, fun k hk => ?_⟩
      have hs := sum_mem (tot m) kids k hk
      exact ih k (h k hk) (by omega) (fun e => (ha (e + 1)).2.2.2.2.2 k hk) d
theorem flat_len {α β : Type} (f : α → List β) (g : α → Nat) : ∀ (l : List α), (∀ x, x ∈ l → (f x).length ≤ g x) → (l.flatMap f).length ≤ (l.map g).sum := by
  intro l
  induction l with
  | nil => intro _; simp
  | cons y r ih =>
    intro h
    rw [List.flatMap_cons, List.length_append, List.map_cons, List.sum_cons]
    have := ih (fun x hx => h x (by simp [hx]))
    have := h y (by simp)
    omega
theorem yield_len (m : Nat) : ∀ (t : TreeM), nestB m t = true → ∀ d, m ≤ d → (yieldL d t).length ≤ tot m t := by
  induction m with
  | zero => intro t h; cases h
  | succ m ih =>
    rintro ⟨p, b, ka, kc, kids⟩ h d hd
    obtain ⟨d, rfl⟩ : ∃ e', d = e' + 1 := ⟨d - 1, by omega⟩
    rw [nestB, List.all_eq_true] at h
    rw [yieldL, tot]
    split
    · simp
    · have := flat_len (yieldL d) (tot m) kids (fun k hk => ih k (h k hk) d (by omega))
      omega

theorem cells3t {W : World} {B t : Nat} {a b c : Value} (h : Blk W B t #[a, b, c]) : W.cell? ⟨B, 0, none⟩ = some a ∧ W.cell? ⟨B, 1, none⟩ = some b ∧ W.cell? ⟨B, 2, none⟩ = some c := ⟨h.cell 0, h.cell 1, h.cell 2⟩

set_option maxRecDepth 100000 in
set_option maxHeartbeats 2000000 in
theorem deep_any (d : Nat) (hd : d ≤ 1048576) : ∀ (t : TreeM) (w : World), TreeIn w t → TFit d t → Calls Try.prog 51 #[treeV t, .int .i64 d] w fun e w' => e = .returned (.bool (!nestB d t)) ∧ Below w.heap.size w w' := by
  induction d with
  | zero =>
    intro t w _ _
    obtain ⟨p, b, ka, kc, kids⟩ := t
    have HB : Hid (Below w.heap.size w (w.alloc (.cells #[.int .i64 p, .int .u8 b, .slice ka kids.length kc] 51))) := Lib.hid ((Below.refl _ _).alloc (Nat.le_refl _) _)
    have HR : Hid ((!nestB 0 (.node p b ka kc kids)) = true) := Lib.hid rfl
    unfold treeV treeC
    go_enter Try.func51, Try.ntmps51
    go_wp2
    go_ret
    exact ⟨by rw [HR.out]; try rfl, HB.out⟩
  | succ d ih =>
    intro t w ht hfit
    have HI := Lib.hid (ih (by omega))
    obtain ⟨p, b, ka, kc, kids⟩ := t
    rw [tree_in] at ht
    obtain ⟨hlen, _, hk⟩ := hfit
    have HT := Lib.hid ht
    have HK := Lib.hid hk
    obtain ⟨q, hq⟩ : ∃ q, q = !nestB (d + 1) (.node p b ka kc kids) := ⟨_, rfl⟩
    rw [← hq]
    have HN : Hid (∀ (i : Nat) (k : TreeM), kids[i]? = some k → nestB d k = false → q = true) := Lib.hid fun i k hi h => by
      rw [hq, nestB, List.all_eq_false.2 ⟨k, List.mem_of_getElem? hi, by rw [h]; simp⟩]; rfl
    have HY : Hid ((∀ (i : Nat) (k : TreeM), kids[i]? = some k → nestB d k = true) → q = false) := Lib.hid fun h => by
      rw [hq, nestB, List.all_eq_true.2 (fun k hk => by obtain ⟨i, hi⟩ := List.mem_iff_getElem?.1 hk; exact h i k hi)]; rfl
    have HB0 : Hid (Below w.heap.size w (w.alloc (.cells #[.int .i64 p, .int .u8 b, .slice ka kids.length kc] 51))) := Lib.hid ((Below.refl _ _).alloc (Nat.le_refl _) _)
    have Hb0 := Lib.hid (Blk.new w 51 #[.int .i64 p, .int .u8 b, .slice ka kids.length kc])
    obtain ⟨n, hn⟩ : ∃ n : Nat, n = kids.length := ⟨_, rfl⟩
    have HL := Lib.hid hn
    rw [← hn] at hlen HB0 Hb0
    clear ht hk hq ih
    unfold treeV treeC
    dsimp only
    rw [← hn]
    clear hn
    obtain ⟨D, hD⟩ : ∃ D : Int, D = ((d + 1 : Nat) : Int) := ⟨_, rfl⟩
    have hD1 : ¬ D < 1 := by omega
    have hD2 : D - 1 = (d : Int) := by omega
    have hD3 : D ≤ 1048577 := by omega
    rw [← hD]
    have HD := Lib.hid hD2
    clear hD hD2
    go_enter Try.func51, Try.ntmps51
    go_wp2
    go_loopw [5] (fun i wr => ∃ k : Nat, i = .int .i64 k ∧ k ≤ n ∧ Hid (∀ (i : Nat) (x : TreeM), i < k → kids[i]? = some x → nestB d x = true) ∧ Hid (Blk wr w.heap.size 51 #[.int .i64 p, .int .u8 b, .slice ka n kc]) ∧ Hid (Below w.heap.size w wr)) (fun i _ => n - (intOf i).toNat)
    case atStart => exact ⟨0, rfl, Nat.zero_le _, Lib.hid (fun j s hj => by omega), Hb0, HB0⟩
    case round =>
      clear Hb0 HB0
      obtain ⟨k, rfl, hk, hS, hb, hB⟩ := hrel
      obtain ⟨c0, c1, c2⟩ := cells3t hb.out
      have l0 := hb.out.lt
      by_cases hlt : k < n
      · obtain ⟨x, hx⟩ : ∃ x, kids[k]? = some x := ⟨_, List.getElem?_eq_getElem (by rw [← HL.out]; exact hlt)⟩
        obtain ⟨b1, o1, e1, hb1, hc1, hi1⟩ := HT.out k x hx
        have hXN : Hid (nestB d x = false → q = true) := Lib.hid (HN.out k x hx)
        have hXG : Hid (nestB d x = true → ∀ (i : Nat) (y : TreeM), i < k + 1 → kids[i]? = some y → nestB d y = true) := Lib.hid fun h i y hi hy => by
          by_cases e : i = k
          · subst e; rw [hx] at hy; cases hy; exact h
          · exact hS.out i y (by omega) hy
        have HC := Lib.hid (HI.out x wr (TreeIn.below hB.out x hi1) (HK.out x (List.mem_of_getElem? hx)))
        have hb1' := Nat.lt_of_lt_of_le hb1 hB.out.size
        have z1 : (k : Int) < (n : Int) := by omega
        have z0 : (0 : Int) ≤ (k : Int) := by omega
        have hcx := hc1.below hB.out hb1
        clear hx hc1 hi1 hS
        generalize nestB d x = r at *
        obtain ⟨xp, xb, xa, xc, xk⟩ := x
        obtain ⟨x0, x1, x2⟩ := Tree_at hcx
        unfold treeV treeC at HC
        rw [e1] at c2
        clear hcx e1
        go_wp2_with fail
        rw [HD.out]
        with_reducible refine HC.out.mono ?_
        rintro e w3 ⟨rfl, hB3⟩
        have HB3 := Lib.hid (hB.out.trans (hB3.mono hB.out.size))
        have Hb3 := Lib.hid (hb.out.below hB3 hb.out.lt)
        clear hB3 c0 c1 c2 x0 x1 x2
        cases r with
        | false =>
          have HE := Lib.hid (hXN.out rfl)
          clear hXN hXG
          go_wp2
          go_ret
          exact ⟨by rw [HE.out]; rfl, HB3.out⟩
        | true =>
          have HZ := Lib.hid (hXG.out rfl)
          clear hXN hXG
          go_wp2
          go_roundw
          case rel => exact ⟨k + 1, by go_num, by omega, HZ, Hb3, HB3⟩
          case measure => simp [intOf]; omega
      · obtain rfl : k = n := by omega
        have HE := Lib.hid (HY.out (fun i x hx => hS.out i x (by have := (List.getElem?_eq_some_iff.1 hx).1; have := HL.out; omega) hx))
        clear hS HY HN
        go_wp2
        go_ret
        exact ⟨by rw [HE.out]; rfl, hB.out⟩
end Go.Proofs.Ytiihdbchchnncaa
end
section
namespace Go.Proofs.Ytiihdbchchnncaa
open Go Go.RowKit

theorem conv_one (w : World) (n : Nat) (b : Int) (h : w.cell? ⟨n, 0, none⟩ = some (.int .u8 b)) : (convert 98 9 (.slice (some ⟨n, 0, none⟩) 1 1)).run Try.prog w = .ok (.string (strOfNums [b])) w := by
  refine run_convert_bytes_arg w 98 5 Try.underlying98 Try.underlying5 n 0 1 1 [b] rfl ?_ 9 Try.underlying9
  intro i hi
  obtain rfl : i = 0 := by omega
  rw [Nat.add_zero, h]; rfl
theorem nums_append (a b : List Int) : (strOfNums (a ++ b)).data.toList = (strOfNums a).data.toList ++ (strOfNums b).data.toList := by
  unfold strOfNums
  simp
theorem nums_size (a : List Int) : (strOfNums a).size = a.length := by
  unfold strOfNums
  simp [ByteArray.size]

set_option maxRecDepth 100000 in
set_option maxHeartbeats 2000000 in
theorem ryield_any (d : Nat) : ∀ (t : TreeM) (w : World), TreeIn w t → TFit d t → nestB d t = true → (yieldL d t).length ≤ 1099511627776 → Calls Try.prog 24 #[treeV t] w fun e w' => e = .returned (.string (strOfNums (yieldL d t))) ∧ Below w.heap.size w w' := by
  induction d with
  | zero => intro t w _ _ h; cases h
  | succ d ih =>
    intro t w ht hfit hnest hsz
    have HI := Lib.hid ih
    obtain ⟨p, b, ka, kc, kids⟩ := t
    rw [tree_in] at ht
    obtain ⟨hlen, _, hk⟩ := hfit
    rw [nestB, List.all_eq_true] at hnest
    rw [yieldL] at hsz ⊢
    have HT := Lib.hid ht
    have HK := Lib.hid hk
    have HNe := Lib.hid hnest
    have HB0 : Hid (Below w.heap.size w (w.alloc (.cells #[.int .i64 p, .int .u8 b, .slice ka kids.length kc] 51))) := Lib.hid ((Below.refl _ _).alloc (Nat.le_refl _) _)
    have Hb0 := Lib.hid (Blk.new w 51 #[.int .i64 p, .int .u8 b, .slice ka kids.length kc])
    obtain ⟨n, hn⟩ : ∃ n : Nat, n = kids.length := ⟨_, rfl⟩
    have HL := Lib.hid hn
    rw [← hn] at hlen HB0 Hb0
    clear ht hk ih hnest
    unfold treeV treeC
    dsimp only
    rw [← hn]
    clear hn
    by_cases hp : p < 0
    · rw [if_pos hp]
      clear hsz
      have HCv := conv_one ((w.alloc (.cells #[.int .i64 p, .int .u8 b, .slice ka n kc] 51)).alloc (.cells #[.int .u8 b] 5)) (w.heap.size + 1) b (by
        have h := Blk.new (w.alloc (.cells #[.int .i64 p, .int .u8 b, .slice ka n kc] 51)) 5 #[.int .u8 b]
        rw [World.size_alloc] at h
        exact h.cell 0)
      go_enter Try.func24, Try.ntmps24
      go_wp2
      go_ret
      exact ⟨rfl, HB0.out.alloc HB0.out.size _⟩
    · rw [if_neg hp] at hsz ⊢
      have hp2 : decide (p < 0) = false := by simpa using hp
      go_enter Try.func24, Try.ntmps24
      go_wp2
      go_loopw [3, 4] (fun s i wr => ∃ k : Nat, i = .int .i64 k ∧ k ≤ n ∧ (∃ S : ByteArray, s = .string S ∧ Hid (S = strOfNums ((kids.take k).flatMap (yieldL d)))) ∧ Hid (Blk wr w.heap.size 51 #[.int .i64 p, .int .u8 b, .slice ka n kc]) ∧ Hid (Below w.heap.size w wr)) (fun _ i _ => n - (intOf i).toNat)
      case atStart => exact ⟨0, rfl, Nat.zero_le _, ⟨_, rfl, Lib.hid rfl⟩, Hb0, HB0⟩
      case round =>
        clear Hb0 HB0
        obtain ⟨k, rfl, hk, ⟨S, rfl, HS⟩, hb, hB⟩ := hrel
        obtain ⟨c0, c1, c2⟩ := cells3t hb.out
        have l0 := hb.out.lt
        by_cases hlt : k < n
        · obtain ⟨x, hx⟩ : ∃ x, kids[k]? = some x := ⟨_, List.getElem?_eq_getElem (by rw [← HL.out]; exact hlt)⟩
          obtain ⟨b1, o1, e1, hb1, hc1, hi1⟩ := HT.out k x hx
          have HTk : Hid ((kids.take (k + 1)).flatMap (yieldL d) = (kids.take k).flatMap (yieldL d) ++ yieldL d x) := Lib.hid (by
            rw [take_snoc kids k x hx, List.flatMap_append]; simp)
          have hle : ((kids.take (k + 1)).flatMap (yieldL d)).length ≤ 1099511627776 := by
            refine Nat.le_trans ?_ hsz
            conv => rhs; rw [← List.take_append_drop (k + 1) kids]
            rw [List.flatMap_append, List.length_append]; omega
          rw [HTk.out, List.length_append] at hle
          have hS1 : S.size = ((kids.take k).flatMap (yieldL d)).length := by rw [HS.out, nums_size]
          have hz : ¬ (9223372036854775807 : Nat) < S.size + (strOfNums (yieldL d x)).size := by rw [hS1, nums_size]; omega
          have HC := Lib.hid (HI.out x wr (TreeIn.below hB.out x hi1) (HK.out x (List.mem_of_getElem? hx)) (HNe.out x (List.mem_of_getElem? hx)) (by omega))
          have hb1' := Nat.lt_of_lt_of_le hb1 hB.out.size
          have z1 : (k : Int) < (n : Int) := by omega
          have z0 : (0 : Int) ≤ (k : Int) := by omega
          have hcx := hc1.below hB.out hb1
          obtain ⟨Y, hY⟩ : ∃ Y, Y = strOfNums (yieldL d x) := ⟨_, rfl⟩
          rw [← hY] at hz HC
          have HSN : Hid (∀ R : ByteArray, R.data.toList = S.data.toList ++ Y.data.toList → R = strOfNums ((kids.take (k + 1)).flatMap (yieldL d))) := Lib.hid fun R hR => by
            refine WideShapes.bytes_inj ?_
            rw [HTk.out, nums_append, ← HS.out, ← hY, hR]
          clear hx hc1 hi1 hS1 hY hle HS HTk
          obtain ⟨xp, xb, xa, xc, xk⟩ := x
          obtain ⟨x0, x1, x2⟩ := Tree_at hcx
          unfold treeV treeC at HC
          rw [e1] at c2
          clear hcx e1
          have HZ := Lib.hid hz
          clear hz
          go_wp2_with fail
          with_reducible refine HC.out.mono ?_
          rintro e w3 ⟨rfl, hB3⟩
          have HB3 := Lib.hid (hB.out.trans (hB3.mono hB.out.size))
          have Hb3 := Lib.hid (hb.out.below hB3 hb.out.lt)
          clear hB3 c0 c1 c2 x0 x1 x2
          have hz := HZ.out
          go_wp2
          go_roundw
          case rel => exact ⟨k + 1, by go_num, by omega, ⟨S ++ Y, rfl, Lib.hid (HSN.out _ (by simp [ByteArray.data_append]))⟩, Hb3, HB3⟩
          case measure => simp [intOf]; omega
        · obtain rfl : k = n := by omega
          have HE : Hid (S = strOfNums (kids.flatMap (yieldL d))) := Lib.hid (by rw [HS.out, HL.out, List.take_length])
          clear HS hsz
          go_wp2
          go_ret
          exact ⟨by rw [HE.out]; rfl, hB.out⟩
end Go.Proofs.Ytiihdbchchnncaa
end
section
namespace Go.Proofs.Ytiihdbchchnncaa
open Go Go.RowKit

/-- How many trees stand in the first kids. -/
def part_ (m : Nat) (l : List TreeM) : Nat := (l.map (tot m)).sum
theorem part_snoc (m : Nat) (l : List TreeM) (k : Nat) (x : TreeM) (h : l[k]? = some x) : part_ m (l.take (k + 1)) = part_ m (l.take k) + tot m x := by
  unfold part_
  rw [take_snoc l k x h, List.map_append, List.sum_append]; simp

/-- What size answers. -/
def SizeP (m : Nat) (t : TreeM) (w : World) (e : Ending) (w' : World) : Prop := ∃ r : Nat, e = .returned (.int .i64 r) ∧ 1 ≤ r ∧ r ≤ m + 1 ∧ (r ≤ m → nestB m t = true ∧ r = tot m t) ∧ Below w.heap.size w w'

set_option maxRecDepth 100000 in
set_option maxHeartbeats 2000000 in
theorem size_any (m : Nat) : m ≤ 5000 → ∀ (t : TreeM) (w : World), TreeIn w t → Calls Try.prog 20 #[treeV t, .int .i64 m] w (SizeP m t w) := by
  induction m using Nat.strongRecOn with
  | _ m ih =>
    intro hm t w ht
    have HI := Lib.hid ih
    obtain ⟨p, b, ka, kc, kids⟩ := t
    rw [tree_in] at ht
    have HT := Lib.hid ht
    have HB0 : Hid (Below w.heap.size w (w.alloc (.cells #[.int .i64 p, .int .u8 b, .slice ka kids.length kc] 51))) := Lib.hid ((Below.refl _ _).alloc (Nat.le_refl _) _)
    have Hb0 := Lib.hid (Blk.new w 51 #[.int .i64 p, .int .u8 b, .slice ka kids.length kc])
    obtain ⟨n, hn⟩ : ∃ n : Nat, n = kids.length := ⟨_, rfl⟩
    have HL := Lib.hid hn
    rw [← hn] at HB0 Hb0
    clear ht ih
    unfold treeV treeC
    dsimp only
    rw [← hn]
    clear hn
    have HP : Hid (∀ (e : Ending) (w' : World) (r : Nat), e = .returned (.int .i64 r) → 1 ≤ r → r ≤ m + 1 → (r ≤ m → nestB m (.node p b ka kc kids) = true ∧ r = tot m (.node p b ka kc kids)) → Below w.heap.size w w' → SizeP m (.node p b ka kc kids) w e w') := Lib.hid fun e w' r h1 h2 h3 h4 h5 => ⟨r, h1, h2, h3, h4, h5⟩
    generalize SizeP m (.node p b ka kc kids) w = PP at *
    go_enter Try.func20, Try.ntmps20
    go_wp2
    go_loopw [5, 6] (fun s i wr => ∃ k N : Nat, i = .int .i64 k ∧ s = .int .i64 N ∧ k ≤ n ∧ k + 1 ≤ N ∧ N ≤ m + 1 ∧ Hid (N ≤ m → N = 1 + part_ (m - 1) (kids.take k) ∧ ∀ (i : Nat) (x : TreeM), i < k → kids[i]? = some x → nestB (m - 1) x = true) ∧ Hid (Blk wr w.heap.size 51 #[.int .i64 p, .int .u8 b, .slice ka n kc]) ∧ Hid (Below w.heap.size w wr)) (fun _ i _ => n - (intOf i).toNat)
    case atStart => exact ⟨0, 1, rfl, rfl, Nat.zero_le _, by omega, by omega, Lib.hid (fun _ => ⟨rfl, fun i x hi => by omega⟩), Hb0, HB0⟩
    case round =>
      clear Hb0 HB0
      obtain ⟨k, N, rfl, rfl, hk, hkN, hNm, hS, hb, hB⟩ := hrel
      obtain ⟨c0, c1, c2⟩ := cells3t hb.out
      have l0 := hb.out.lt
      by_cases hlt : k < n
      · by_cases hN : N ≤ m
        · obtain ⟨x, hx⟩ : ∃ x, kids[k]? = some x := ⟨_, List.getElem?_eq_getElem (by rw [← HL.out]; exact hlt)⟩
          obtain ⟨b1, o1, e1, hb1, hc1, hi1⟩ := HT.out k x hx
          have HC := Lib.hid (HI.out (m - N) (by omega) (by omega) x wr (TreeIn.below hB.out x hi1))
          have hb1' := Nat.lt_of_lt_of_le hb1 hB.out.size
          have z1 : (k : Int) < (n : Int) := by omega
          have z0 : (0 : Int) ≤ (k : Int) := by omega
          have z2 : (N : Int) ≤ (m : Int) := by omega
          have z3 : (m : Int) ≤ 5000 := by omega
          have z4 : (m : Int) - (N : Int) = ((m - N : Nat) : Int) := by omega
          have Z4 := Lib.hid z4
          have hcx := hc1.below hB.out hb1
          have hS' := hS.out hN
          have HST : Hid (∀ r : Nat, (r ≤ m - N → nestB (m - N) x = true ∧ r = tot (m - N) x) → N + r ≤ m → N + r = 1 + part_ (m - 1) (kids.take (k + 1)) ∧ ∀ (i : Nat) (x : TreeM), i < k + 1 → kids[i]? = some x → nestB (m - 1) x = true) := Lib.hid fun r hr hle => by
            obtain ⟨q1, q2⟩ := hr (by omega)
            have q3 := nest_mono _ x q1 (m - 1) (by omega)
            have q4 := tot_mono _ x q1 (m - 1) (by omega)
            refine ⟨by rw [part_snoc _ _ _ _ hx, q4, ← q2]; have := hS'.1; omega, fun i y hi hy => ?_⟩
            by_cases e : i = k
            · subst e; rw [hx] at hy; cases hy; exact q3
            · exact hS'.2 i y (by omega) hy
          clear hx hc1 hi1 hS hS' z4
          obtain ⟨xp, xb, xa, xc, xk⟩ := x
          obtain ⟨x0, x1, x2⟩ := Tree_at hcx
          unfold treeV treeC at HC
          rw [e1] at c2
          clear hcx e1
          go_wp2_with fail
          rw [Z4.out]
          with_reducible refine HC.out.mono ?_
          rintro e w3 ⟨r, rfl, hr1, hr2, hr3, hB3⟩
          have HB3 := Lib.hid (hB.out.trans (hB3.mono hB.out.size))
          have Hb3 := Lib.hid (hb.out.below hB3 hb.out.lt)
          have HR3 := Lib.hid (HST.out r hr3)
          clear hB3 c0 c1 c2 x0 x1 x2 hr3 HST
          go_wp2
          go_roundw
          case rel => exact ⟨k + 1, N + r, by go_num, by go_num, by omega, by omega, by omega, HR3, Hb3, HB3⟩
          case measure => simp [intOf]; omega
        · have z1 : (k : Int) < (n : Int) := by omega
          have z2 : decide ((N : Int) ≤ (m : Int)) = false := by simp; omega
          clear hS
          go_wp2
          exact HP.out _ _ N rfl (by omega) (by omega) (fun h => absurd h hN) hB.out
      · obtain rfl : k = n := by omega
        have HF : Hid (N ≤ m → nestB m (.node p b ka kc kids) = true ∧ N = tot m (.node p b ka kc kids)) := Lib.hid fun h => by
          obtain ⟨q1, q2⟩ := hS.out h
          obtain ⟨m, rfl⟩ : ∃ m', m = m' + 1 := ⟨m - 1, by omega⟩
          rw [HL.out, List.take_length, Nat.add_sub_cancel] at q1
          refine ⟨?_, by rw [tot, q1]; rfl⟩
          rw [nestB, List.all_eq_true]
          intro y hy
          obtain ⟨i, hi⟩ := List.mem_iff_getElem?.1 hy
          exact q2 i y (by have := (List.getElem?_eq_some_iff.1 hi).1; have := HL.out; omega) hi
        clear hS
        go_wp2
        exact HP.out _ _ N rfl (by omega) (by omega) HF.out hB.out
end Go.Proofs.Ytiihdbchchnncaa
end
