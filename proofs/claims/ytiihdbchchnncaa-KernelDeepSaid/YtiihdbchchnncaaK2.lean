import Derived.Test.YtiihdbchchnncaaK1
namespace Go.Proofs.Ytiihdbchchnncaa
open Go Go.RowKit

/-- The grammar that the laws know, with where its lists lie. -/
def GK (sa pa r0 r1 r2 r3 : Option Addr) : GramM := ⟨sa, 3, [⟨#[83]⟩, ⟨#[65]⟩, ⟨#[66]⟩], pa, 4,
  [⟨0, r0, 1, [⟨1, 0, 1⟩], ⟨#[]⟩, 0, false, false, -1⟩, ⟨0, r1, 2, [⟨0, lx, 0⟩, ⟨1, 0, 0⟩], ⟨#[]⟩, 0, false, false, -1⟩, ⟨1, r2, 1, [⟨0, la, 0⟩], ⟨#[]⟩, 0, false, false, -1⟩, ⟨2, r3, 1, [⟨1, 0, 2⟩], ⟨#[]⟩, 0, false, false, -1⟩],
  0, none, 0, [], none, 0, []⟩
section
variable (sa pa r0 r1 r2 r3 : Option Addr)
theorem GK_check : checkB (GK sa pa r0 r1 r2 r3) = true := by kernel_rfl
theorem GK_find : findN ⟨#[65]⟩ (GK sa pa r0 r1 r2 r3).sorts = some 1 := by kernel_rfl
theorem GK_pv1 : PV (GK sa pa r0 r1 r2 r3) 1 := by
  refine PV.mk (g := GK sa pa r0 r1 r2 r3) ⟨1, r2, 1, [⟨0, la, 0⟩], ⟨#[]⟩, 0, false, false, -1⟩ (by simp [GK]) (show (0 : Int) ≠ 11 by decide) ?_
  intro s hs hk
  simp at hs
  subst hs
  simp at hk
theorem GK_pv0 : PV (GK sa pa r0 r1 r2 r3) 0 := by
  refine PV.mk (g := GK sa pa r0 r1 r2 r3) ⟨0, r0, 1, [⟨1, 0, 1⟩], ⟨#[]⟩, 0, false, false, -1⟩ (by simp [GK]) (show (0 : Int) ≠ 11 by decide) ?_
  intro s hs _
  simp at hs
  subst hs
  exact GK_pv1 sa pa r0 r1 r2 r3
theorem GK_live : Live (GK sa pa r0 r1 r2 r3) [true, true, false] := by
  refine live_of (by simp [GK]) ?_ ?_
  · intro k hk
    match k with
    | 0 => exact GK_pv0 sa pa r0 r1 r2 r3
    | 1 => exact GK_pv1 sa pa r0 r1 r2 r3
    | 2 => simp at hk
    | k + 3 => simp at hk
  · intro x hx hok
    simp only [GK, List.mem_cons, List.not_mem_nil, or_false] at hx
    rcases hx with rfl | rfl | rfl | rfl
    · rfl
    · rfl
    · rfl
    · exact absurd (hok.symm.trans (show okP [true, true, false] ⟨2, r3, 1, [⟨1, 0, 2⟩], ⟨#[]⟩, 0, false, false, -1⟩ = false from rfl)) (by decide)
theorem GK_is {L : List Bool} (h : Live (GK sa pa r0 r1 r2 r3) L) : L = [true, true, false] := h.unique (GK_live sa pa r0 r1 r2 r3)
theorem GK_well {r : Int × Int} (h : WellP (GK sa pa r0 r1 r2 r3) r) : r = (161, 2) := by
  unfold WellP at h
  rw [GK_check, if_pos rfl] at h
  obtain ⟨L, hL, h⟩ := h
  rw [GK_is _ _ _ _ _ _ hL] at h
  rcases h with ⟨_, h⟩ | ⟨h, _⟩
  · exact h
  · exact absurd h (by decide)
theorem GK_reach {R : List Bool} (h : ReachL (GK sa pa r0 r1 r2 r3) [true, true, false] R) : R = [true, true, false] := by
  obtain ⟨hl, hR⟩ := h
  have h0 : R[0]? = some true := (hR 0).2 .refl
  have h1 : R[1]? = some true := (hR 1).2 (.step .refl ⟨⟨0, r0, 1, [⟨1, 0, 1⟩], ⟨#[]⟩, 0, false, false, -1⟩, by simp [GK], rfl, rfl, ⟨1, 0, 1⟩, by simp, rfl, rfl⟩)
  have hno : ∀ k, RF (GK sa pa r0 r1 r2 r3) [true, true, false] 0 k → k ≤ 1 := fun k hk => by
    induction hk with
    | refl => exact Nat.zero_le _
    | step _ e ih =>
      obtain ⟨x, hx, hl, hs, s, hsm, hk, ht⟩ := e
      simp only [GK, List.mem_cons, List.not_mem_nil, or_false] at hx
      rcases hx with rfl | rfl | rfl | rfl
      · simp at hsm; subst hsm; simp at ht; omega
      · simp at hsm
        rcases hsm with rfl | rfl
        · simp at hk
        · simp at ht; omega
      · simp at hsm; subst hsm; simp at hk
      · simp at hl; omega
  have h2 : R[2]? ≠ some true := fun h => by
    have := hno 2 ((hR 2).1 h)
    omega
  have hl3 : R.length = 3 := hl
  match R, hl3 with
  | [a, b, c], _ =>
    simp at h0 h1 h2
    rw [h0, h1, h2]
/-- What Trim makes of it. -/
theorem GK_trim {e : Ending} {w' : World} (h : TrimP (GK sa pa r0 r1 r2 r3) e w') : ∃ h, h.sorts.length = 2 ∧ h.prods.length = 3 ∧ GIn w' h ∧ e = .returned (.tuple #[gramV h, .int .i64 0]) := by
  unfold TrimP at h
  rw [GK_check, if_pos rfl] at h
  obtain ⟨L, hL, h⟩ := h
  rw [GK_is _ _ _ _ _ _ hL] at h
  rcases h with ⟨h, _⟩ | ⟨_, R, h, hR, hK, hG, _, he⟩
  · exact absurd h (show ¬ (true = false) by decide)
  · rw [GK_reach _ _ _ _ _ _ hR] at hK
    refine ⟨h, ?_, ?_, hG, he⟩
    · rw [hK.sorts]; rfl
    · have := congrArg List.length hK.prods
      rw [List.length_map, List.length_map] at this
      rw [this]; rfl
theorem GK_of {e : Ending} {w' : World} (h : OfP (GK sa pa r0 r1 r2 r3) 0 e w') : ∃ a c, e = .returned (.tuple #[.slice a 2 c, .int .i64 0]) := by
  unfold OfP at h
  rw [GK_check, if_pos rfl, if_pos (show numB 0 (GK sa pa r0 r1 r2 r3).sorts.length = true by kernel_rfl)] at h
  obtain ⟨a, c, h, _⟩ := h
  exact ⟨a, c, h⟩
/-- The tree that the laws know. -/
def TK (a b : Option Addr) : TreeM := .node 0 0 a 1 [.node 2 0 b 1 [.node (-1) 97 none 0 []]]
theorem TK_nest (a b : Option Addr) : nestB 16384 (TK a b) = true := by kernel_rfl
theorem TK_tree (a b : Option Addr) : treeB (GK sa pa r0 r1 r2 r3) 16384 (TK a b) = true := by kernel_rfl
theorem TK_yield (a b : Option Addr) : strOfNums (yieldL 16384 (TK a b)) = ⟨#[97]⟩ := by kernel_rfl
theorem TK_ct (a b : Option Addr) : ctI (GK sa pa r0 r1 r2 r3) (TK a b) = 0 := by
  unfold ctI
  rw [GK_check, TK_nest, TK_tree]; rfl
end
theorem zeroG_check : checkB zeroG = false := by kernel_rfl
end Go.Proofs.Ytiihdbchchnncaa
