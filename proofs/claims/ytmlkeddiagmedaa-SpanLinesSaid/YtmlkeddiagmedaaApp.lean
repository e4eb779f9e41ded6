import Derived.Test.YtmlkeddiagmedaaTog3
namespace Go.Proofs.Ytmlkeddiagmedaa
open Go.RowKit

def growI (x : Ed) : Int := (x.2.2.size : Int) - (x.2.1 - x.1)
def sumG (d : List Ed) : Int := (d.map growI).foldl (· + ·) 0

theorem sumG_snoc (d : List Ed) (x : Ed) : sumG (d ++ [x]) = sumG d + growI x := by simp [sumG]

theorem take_snoc {α : Type} (d : List α) (k : Nat) (x : α) (h : d[k]? = some x) : d.take (k + 1) = d.take k ++ [x] := by
  rw [List.take_add_one, h]; rfl

/-- The texts of so many Edits are no longer than B. -/
def smallEd (B : Nat) (d : List Ed) : Prop := ∀ x ∈ d, x.2.2.size ≤ B

theorem foldl_add (l : List Int) : ∀ a : Int, l.foldl (· + ·) a = a + l.foldl (· + ·) 0 := by
  induction l with
  | nil => intro a; simp
  | cons b r ih => intro a; simp only [List.foldl_cons]; rw [ih (a + b), ih (0 + b)]; omega

theorem sumG_cons (x : Ed) (d : List Ed) : sumG (x :: d) = growI x + sumG d := by
  unfold sumG
  simp only [List.map_cons, List.foldl_cons]
  rw [foldl_add]; omega

/-- How far a sum can go. -/
theorem sumG_bd (n B : Nat) (d : List Ed) (hg : ∀ x ∈ d, goodEd n x) (hs : smallEd B d) : - ((n * d.length : Nat) : Int) ≤ sumG d ∧ sumG d ≤ ((B * d.length : Nat) : Int) := by
  induction d with
  | nil => simp [sumG]
  | cons x r ih =>
    have ih := ih (fun y hy => hg y (List.mem_cons_of_mem _ hy)) (fun y hy => hs y (List.mem_cons_of_mem _ hy))
    have h1 := hg x (List.mem_cons_self)
    have h2 := hs x (List.mem_cons_self)
    rw [sumG_cons]
    unfold goodEd at h1
    unfold growI
    rw [List.length_cons, Nat.mul_add, Nat.mul_add]
    omega

theorem take_mem {d : List Ed} {k : Nat} {P : Ed → Prop} (h : ∀ x ∈ d, P x) : ∀ x ∈ d.take k, P x := fun x hx => h x (List.mem_of_mem_take hx)

def appPost (s : ByteArray) (d : List Ed) (w : World) (e : Ending) (w' : World) : Prop :=
  Below w.heap.size w w' ∧ ((¬ (∀ x ∈ d, goodEd s.size x) ∧ e = .returned (.tuple #[.slice none 0 0, .int .i64 4])) ∨
    ((∀ x ∈ d, goodEd s.size x) ∧ ∃ sd : List Ed, sd.Perm d ∧ SortedEd sd ∧
      ((Ovl sd ∧ e = .returned (.tuple #[.slice none 0 0, .int .i64 110])) ∨
       (¬ Ovl sd ∧ ((1048576 < s.size + sumG sd ∧ e = .returned (.tuple #[.slice none 0 0, .int .i64 3])) ∨
         (s.size + sumG sd ≤ 1048576 ∧ ∃ a cap, RowEd w' a sd ∧ (∀ g, a = some g → w.heap.size ≤ g.block) ∧ e = .returned (.tuple #[.slice a sd.length cap, .int .i64 0])))))))

set_option maxHeartbeats 1000000 in
theorem applicable_any (s : ByteArray) (a : Option Addr) (cap : Nat) (d : List Ed) (w : World) (B : Nat) (hs : s.size ≤ 1048576) (hd : RowEd w a d) (hl : d.length ≤ 1048576) (hB : smallEd B d) (hBB : B ≤ 1073741824) :
    Calls Try.prog 31 #[.string s, .slice a d.length cap] w (appPost s d w) := by
  have HT := Lib.hid (together_any s.size a cap d w hd (by omega))
  have HB := Lib.hid hB
  clear hd hB
  go_enter Try.func31, Try.ntmps31
  go_wp2_with fail
  refine HT.out.mono ?_
  rintro e w1 ⟨hB1, ⟨hno, rfl⟩ | ⟨hgood, sd, hperm, hsort, ⟨hov, rfl⟩ | ⟨hnov, a1, c1, hrow, hfresh, rfl⟩⟩⟩
  · have H := Lib.hid hno; clear hno
    go_wp2
    go_ret2
    exact ⟨hB1, .inl ⟨H.out, rfl⟩⟩
  · have H := Lib.hid (And.intro hgood (And.intro hperm (And.intro hsort hov))); clear hgood hperm hsort hov
    go_wp2
    go_ret2
    exact ⟨hB1, .inr ⟨H.out.1, sd, H.out.2.1, H.out.2.2.1, .inl ⟨H.out.2.2.2, rfl⟩⟩⟩
  · have hlen : sd.length = d.length := hperm.length_eq
    have hgs : ∀ x ∈ sd, goodEd s.size x := fun x hx => hgood x (hperm.mem_iff.1 hx)
    have hss : smallEd B sd := fun x hx => HB.out x (hperm.mem_iff.1 hx)
    have hsl : sd.length ≤ 1048576 := by omega
    have hbd : ∀ k, k ≤ sd.length → -1099511627776 ≤ sumG (sd.take k) ∧ sumG (sd.take k) ≤ 1125899906842624 := by
      intro k hk
      have hb := sumG_bd s.size B (sd.take k) (take_mem hgs) (take_mem hss)
      have hkl : (sd.take k).length ≤ 1048576 := by rw [List.length_take]; omega
      have m1 : s.size * (sd.take k).length ≤ 1048576 * 1048576 := Nat.mul_le_mul hs hkl
      have m2 : B * (sd.take k).length ≤ 1073741824 * 1048576 := Nat.mul_le_mul hBB hkl
      omega
    have HBD := Lib.hid hbd
    clear hbd
    have H := Lib.hid (And.intro hgood (And.intro hperm (And.intro hsort (And.intro hnov hfresh))))
    have HG := Lib.hid (And.intro hgs hss)
    have HR := Lib.hid hrow
    clear hgood hperm hsort hnov hfresh hgs hss hlen hrow hl HT HB
    go_wp2_with fail
    go_loopw [8, 28] (fun q p wr => ∃ k : Nat, p = .int .i64 k ∧ k ≤ sd.length ∧ q = .int .i64 ((s.size : Int) + sumG (sd.take k)) ∧ Below w1.heap.size w1 wr)
      (fun _ p _ => sd.length - (intOf p).toNat)
    case atStart => exact ⟨0, rfl, Nat.zero_le _, by simp [sumG], Below.refl _ _⟩
    case round =>
      obtain ⟨k, rfl, hk, rfl, hB2⟩ := hrel
      have hS := HBD.out k hk
      obtain ⟨S, hSe⟩ : ∃ S, S = sumG (sd.take k) := ⟨_, rfl⟩
      rw [← hSe] at hS ⊢
      have HSE := Lib.hid hSe
      clear hSe
      by_cases hlt : k < sd.length
      · obtain ⟨x, hx⟩ : ∃ x, sd[k]? = some x := ⟨sd[k], by simp [hlt]⟩
        obtain ⟨b, off, rfl, x0, x1, x2⟩ := HR.out _ _ hx
        have hb := lt_of_cell x0
        have cx0 : wr.cell? ⟨b, off + k * 3, none⟩ = some (.int .i64 x.1) := (hB2.cell (p := ⟨b, _, none⟩) hb).trans x0
        have cx1 : wr.cell? ⟨b, off + k * 3 + 1, none⟩ = some (.int .i64 x.2.1) := (hB2.cell (p := ⟨b, _, none⟩) hb).trans x1
        have cx2 : wr.cell? ⟨b, off + k * 3 + 2, none⟩ = some (.string x.2.2) := (hB2.cell (p := ⟨b, _, none⟩) hb).trans x2
        have hgx := HG.out.1 x (List.mem_of_getElem? hx)
        have hsx := HG.out.2 x (List.mem_of_getElem? hx)
        unfold goodEd at hgx
        obtain ⟨g0, g1, g2⟩ := hgx
        have hS2 := HBD.out (k + 1) (by omega)
        have HE : Hid (sumG (sd.take (k + 1)) = S + growI x) := by
          show _ = _
          rw [take_snoc sd k x hx, sumG_snoc, HSE.out]
        rw [HE.out] at hS2
        unfold growI at hS2 HE
        have HX := Lib.hid hx
        clear x0 x1 x2 hx
        have HGR := fun W => Lib.hid (growth_any x.1 x.2.1 x.2.2 W g0 g1 (by omega) (by omega))
        go_wp2_with fail
        refine (HGR _).out.mono ?_
        rintro e w2 ⟨rfl, hB3⟩
        clear HGR
        have hB4 := (hB2.alloc hB2.size (.cells #[.int .i64 x.1, .int .i64 x.2.1, .string x.2.2] 42)).trans (hB3.mono (by have := hB2.size; simp; omega))
        clear hB3 hB2 cx0 cx1 cx2
        go_wp2
        go_roundw
        case rel => exact ⟨k + 1, by go_num, by omega, by rw [HE.out]; go_num, hB4⟩
        case measure => simp [intOf]; omega
      · obtain rfl : k = sd.length := by omega
        have HE : Hid (S = sumG sd) := by
          show _ = _
          rw [HSE.out, List.take_length]
        have hB5 := hB1.trans (hB2.mono hB1.size)
        by_cases hbig : 1048576 < (s.size : Int) + S
        · go_wp2
          go_ret2
          exact ⟨hB5, .inr ⟨H.out.1, sd, H.out.2.1, H.out.2.2.1, .inr ⟨H.out.2.2.2.1, .inl ⟨by rw [← HE.out]; exact hbig, rfl⟩⟩⟩⟩
        · go_wp2
          go_ret2
          exact ⟨hB5, .inr ⟨H.out.1, sd, H.out.2.1, H.out.2.2.1, .inr ⟨H.out.2.2.2.1, .inr ⟨by rw [← HE.out]; omega, a1, c1, HR.out.below hB2, H.out.2.2.2.2, rfl⟩⟩⟩⟩

end Go.Proofs.Ytmlkeddiagmedaa
