import Derived.Test.YtmlkeddiagmedaaJoin
import Derived.Test.YtmlkeddiagmedaaApply
import Derived.Deep.RegionHeld3
import Derived.Deep.AppendLies
import Derived.IntWalk
namespace Go.Proofs.Ytmlkeddiagmedaa
open Go.RowKit

def undoA (s : ByteArray) : List Ed → Int → List Ed
  | [], _ => []
  | x :: J, sh => (x.1 + sh, x.1 + sh + x.2.2.size, s.extract x.1.toNat x.2.1.toNat) :: undoA s J (sh + growI x)

theorem undoA_snoc (s : ByteArray) (J : List Ed) (x : Ed) : ∀ sh, undoA s (J ++ [x]) sh = undoA s J sh ++ [(x.1 + (sh + sumG J), x.1 + (sh + sumG J) + x.2.2.size, s.extract x.1.toNat x.2.1.toNat)] := by
  induction J with
  | nil => intro sh; simp [undoA, sumG]
  | cons y r ih =>
    intro sh
    rw [List.cons_append]
    show _ :: undoA s (r ++ [x]) (sh + growI y) = _
    rw [ih, sumG_cons, Int.add_assoc sh]
    rfl

theorem undoA_len (s : ByteArray) (J : List Ed) : ∀ sh, (undoA s J sh).length = J.length := by
  induction J with
  | nil => intro sh; rfl
  | cons y r ih => intro sh; show (undoA s r _).length + 1 = _; rw [ih]; rfl

theorem joinStep_mem (P : Ed → Prop) (h : ∀ y x, touches y x → P y → P x → P (y.1, x.2.1, y.2.2)) (J : List Ed) (x : Ed) (hJ : ∀ z ∈ J, P z) (hx : P x) : ∀ z ∈ joinStep J x, P z := by
  intro z hz
  rcases List.eq_nil_or_concat J with rfl | ⟨J0, y, rfl⟩
  · rw [joinStep_nil] at hz; simp at hz; subst hz; exact hx
  · rw [List.concat_eq_append] at hz hJ
    by_cases ht : touches y x
    · rw [joinStep_hit _ _ _ ht] at hz
      rcases List.mem_append.1 hz with hz | hz
      · exact hJ z (List.mem_append_left _ hz)
      · simp at hz; subst hz; exact h y x ht (hJ y (by simp)) hx
    · rw [joinStep_miss _ _ _ ht] at hz
      rcases List.mem_append.1 hz with hz | hz
      · exact hJ z hz
      · simp at hz; subst hz; exact hx

theorem joinA_mem (P : Ed → Prop) (h : ∀ y x, touches y x → P y → P x → P (y.1, x.2.1, y.2.2)) (d : List Ed) (hd : ∀ z ∈ d, P z) : ∀ z ∈ joinA d, P z := by
  have key : ∀ k, k ≤ d.length → ∀ z ∈ joinA (d.take k), P z := by
    intro k
    induction k with
    | zero => intro _ z hz; simp [joinA] at hz
    | succ k ih =>
      intro hk
      rw [take_snoc d k d[k] (by simp [show k < d.length by omega]), joinA_snoc]
      exact joinStep_mem P h _ _ (ih (by omega)) (hd _ (List.getElem_mem _))
  have := key d.length (Nat.le_refl _)
  rwa [List.take_length] at this

theorem joinA_good (n : Int) (B : Nat) (d : List Ed) (hg : ∀ x ∈ d, goodEd n x) (hs : smallEd B d) : (∀ x ∈ joinA d, goodEd n x) ∧ smallEd B (joinA d) := by
  have h := joinA_mem (fun x => goodEd n x ∧ x.2.2.size ≤ B) (by
    rintro y x ⟨_, _, ht⟩ ⟨gy, by_⟩ ⟨gx, _⟩
    refine ⟨?_, by_⟩
    unfold goodEd at *
    dsimp only
    omega) d (fun x hx => ⟨hg x hx, hs x hx⟩)
  exact ⟨fun x hx => (h x hx).1, fun x hx => (h x hx).2⟩

theorem joinA_le (d : List Ed) : (joinA d).length ≤ d.length := by
  have := joinA_len d d.length
  rwa [List.take_length] at this

theorem clone27 (s : ByteArray) (w : World) (hs : s.size ≤ 281474976710656) : Calls Try.prog 27 #[.string s] w fun e w' => e = .returned (.string s) ∧ Below w.heap.size w w' := by
  have H := Lib.hid (Try.stringslite_Clone s w hs)
  go_enter Try.func27, Try.ntmps27
  go_wp2_with fail
  refine H.out.mono ?_
  rintro e w1 ⟨rfl, hB⟩
  go_wp2
  go_ret
  exact ⟨rfl, hB⟩

theorem OwnEd.below2 {W' w1 : World} (hB : Below W'.heap.size W' w1) {B : Nat} {v : Value} {d : List Ed} {W : World} (h : OwnEd B v d W) (e : W'.heap = W.heap) : OwnEd B v d w1 := by
  refine OwnEd.below (w := W') ?_ hB (Nat.le_refl _)
  unfold OwnEd World.ownsRow at *
  rw [e]; exact h

end Go.Proofs.Ytmlkeddiagmedaa
