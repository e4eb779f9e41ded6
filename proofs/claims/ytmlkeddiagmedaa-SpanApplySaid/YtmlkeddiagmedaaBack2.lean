import Derived.Test.YtmlkeddiagmedaaBack
import Derived.Test.YtmlkeddiagmedaaUndo2
import Derived.Test.YtmlkeddiagmedaaLong
namespace Go.Proofs.Ytmlkeddiagmedaa
open Go.RowKit

theorem ch_of_lnk (L : Nat) : ∀ (d : List Ed) (n : Nat), n ≤ L → (∀ x, d.head? = some x → (n : Int) ≤ x.1) → (∀ x ∈ d, goodEd L x) → Lnk d → Ch L n d
  | [], n, h, _, _, _ => h
  | x :: r, n, h, h1, h2, h3 => by
    have gx := h2 x (by simp)
    refine ⟨h1 x (by simp), gx, ch_of_lnk L r _ ?_ ?_ (fun y hy => h2 y (List.mem_cons_of_mem _ hy)) h3.tail⟩
    · unfold goodEd at gx; omega
    · intro y hy
      cases r with
      | nil => simp at hy
      | cons z t =>
        simp at hy; subst hy
        have := (h3 [] x z t rfl).1
        unfold Bef at this; unfold goodEd at gx; omega

theorem undo_all (s : ByteArray) (sd : List Ed) (hg : ∀ x ∈ sd, goodEd s.size x) (hb : sd.Pairwise Bef) :
    applyA (applyA s.data.toList sd) (undoA s (joinA sd) 0) = s.data.toList ∧ (∀ a ∈ undoA s (joinA sd) 0, goodEd (applyA s.data.toList sd).length a) ∧ ¬ Ovl (undoA s (joinA sd) 0) := by
  have hgj : ∀ x ∈ joinA sd, goodEd s.size x := joinA_mem (goodEd s.size) (by
    rintro y x ⟨_, _, ht⟩ gy gx
    unfold goodEd at *
    dsimp only
    omega) _ hg
  have hl := lnk_join s.size sd hb hg
  have hc := ch_of_lnk s.size (joinA sd) 0 (Nat.zero_le _) (fun x hx => by have := hgj x (List.mem_of_mem_head? hx); unfold goodEd at this; omega) hgj hl
  have h := undo_back s (joinA sd) 0 0 [] hc (by simp)
  rw [List.nil_append, ← applyA_from, applyA_join] at h
  refine ⟨?_, h.2, undo_ovl s s.size _ 0 hl hgj⟩
  rw [applyA_from]
  simpa using h.1

theorem undoA_small (s : ByteArray) (J : List Ed) : ∀ sh, smallEd s.size (undoA s J sh) := by
  induction J with
  | nil => intro sh a ha; simp [undoA] at ha
  | cons x r ih =>
    intro sh a ha
    rcases List.mem_cons.1 ha with rfl | ha
    · show (s.extract _ _).size ≤ _
      rw [ByteArray.size_extract]; omega
    · exact ih _ a ha

theorem ba_of_list {s : ByteArray} {l : List UInt8} (h : l = s.data.toList) : (⟨l.toArray⟩ : ByteArray) = s := by
  subst h; simp

theorem sorted_at {sd : List Ed} (h : SortedEd sd) {i : Nat} {x y : Ed} (hx : sd[i]? = some x) (hy : sd[i + 1]? = some y) : x.1 < y.1 ∨ (x.1 = y.1 ∧ x.2.1 ≤ y.2.1) := by
  obtain ⟨q1, rfl⟩ := List.getElem?_eq_some_iff.1 hx
  obtain ⟨q2, rfl⟩ := List.getElem?_eq_some_iff.1 hy
  unfold SortedEd at h
  rw [List.pairwise_iff_getElem] at h
  exact h i (i + 1) q1 q2 (by omega)

/-- A perm of Edits that lie one behind the other, made: as they lie. -/
theorem apply_perm (T : ByteArray) (a : Option Addr) (cap : Nat) (d U : List Ed) (w : World) (B : Nat) (hT : T.size ≤ 100000) (hd : RowEd w a d) (hl : d.length ≤ 20) (hB : smallEd B d) (hBB : B ≤ 3000) (hp : d.Perm U) (hU : U.Pairwise Bef) (hg : ∀ x ∈ U, goodEd T.size x) :
    Calls Try.prog 16 #[.string T, .slice a d.length cap] w fun e w' => e = .returned (.tuple #[.string ⟨(applyA T.data.toList U).toArray⟩, .int .i64 0]) ∧ Below w.heap.size w w' := by
  have hgd : ∀ x ∈ d, goodEd T.size x := fun x hx => hg x (hp.mem_iff.1 hx)
  refine (apply_any T a cap d w B (by omega) hd (by omega) hB (by omega) ?_).mono ?_
  · have : B * d.length ≤ 3000 * 20 := Nat.mul_le_mul hBB hl
    omega
  rintro e w' ⟨hBl, ⟨hno, rfl⟩ | ⟨hgood, sd, hperm, hsort, h⟩⟩
  · exact absurd hgd hno
  · have hpu : sd.Perm U := hperm.trans hp
    have hsb : sd.Pairwise SymBef := symBef_perm hU hpu.symm
    have hov : ¬ Ovl sd := by
      rintro ⟨i, x, y, hx, hy, hbd⟩
      have h1 := symBef_at hsb hx hy (by omega)
      have gx := hg x (hpu.mem_iff.1 (List.mem_of_getElem? hx))
      have gy := hg y (hpu.mem_iff.1 (List.mem_of_getElem? hy))
      have hs := sorted_at hsort hx hy
      unfold SymBef Bef at h1
      unfold pairBad at hbd
      unfold goodEd at gx gy
      omega
    have hbf := bef_of_sorted T.size sd (fun x hx => hg x (hpu.mem_iff.1 hx)) hov
    have he : sd = U := sorted_unique hg hpu hbf hU
    subst he
    have hsum := sumG_bd T.size B sd hg (fun x hx => hB x (hperm.mem_iff.1 hx))
    have hsl : sd.length ≤ 20 := by rw [hperm.length_eq]; exact hl
    have : B * sd.length ≤ 3000 * 20 := Nat.mul_le_mul hBB hsl
    rcases h with ⟨hv, _⟩ | ⟨_, ⟨hbig, _⟩ | ⟨_, rfl⟩⟩
    · exact absurd hv hov
    · omega
    · exact ⟨rfl, hBl⟩

end Go.Proofs.Ytmlkeddiagmedaa
