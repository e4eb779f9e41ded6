import Derived.Test.YtmlkeddiagmedaaTog2
namespace Go.Proofs.Ytmlkeddiagmedaa
open Go.RowKit
open Go.Sort (HoldsK)

def goodEd (n : Int) (x : Ed) : Prop := 0 ≤ x.1 ∧ x.1 ≤ x.2.1 ∧ x.2.1 ≤ n
instance (n : Int) (x : Ed) : Decidable (goodEd n x) := by unfold goodEd; infer_instance

def togPost (n : Int) (d : List Ed) (w : World) (e : Ending) (w' : World) : Prop :=
  Below w.heap.size w w' ∧ ((¬ (∀ x ∈ d, goodEd n x) ∧ e = .returned (.tuple #[.slice none 0 0, .int .i64 4])) ∨
    ((∀ x ∈ d, goodEd n x) ∧ ∃ sd : List Ed, sd.Perm d ∧ SortedEd sd ∧
      ((Ovl sd ∧ e = .returned (.tuple #[.slice none 0 0, .int .i64 110])) ∨
       (¬ Ovl sd ∧ ∃ a cap, RowEd w' a sd ∧ (∀ g, a = some g → w.heap.size ≤ g.block) ∧ e = .returned (.tuple #[.slice a sd.length cap, .int .i64 0])))))

/-- What Clone hands back, whatever came in. -/
def cloneAll (d : List Ed) (w : World) (e : Ending) (w' : World) : Prop :=
  Below w.heap.size w w' ∧ ((d = [] ∧ ∃ a cap, e = .returned (.slice a 0 cap) ∧ (∀ g, a = some g → w.heap.size ≤ g.block)) ∨
    ∃ g cap, e = .returned (.slice (some ⟨g, 0, none⟩) d.length cap) ∧ w.heap.size ≤ g ∧ g < w'.heap.size ∧ HoldsK encEd 3 w' g 0 d.toArray)

theorem clone_all (a : Option Addr) (cap : Nat) (d : List Ed) (w : World) (hd : RowEd w a d) (hl : d.length * 32 ≤ 140737488355328) :
    Calls Try.prog 56 #[.slice a d.length cap] w (cloneAll d w) := by
  cases d with
  | nil =>
    cases a with
    | none => exact (clone_nil 0 cap w).mono fun e w' ⟨h, h2⟩ => ⟨h2 ▸ Below.refl _ _, .inl ⟨rfl, none, 0, h, fun g hg => by cases hg⟩⟩
    | some p => exact (clone_zero p cap w).mono fun e w' ⟨⟨g, c, h, hg⟩, h2⟩ => ⟨h2, .inl ⟨rfl, _, c, h, fun g' hg' => by cases hg'; exact hg⟩⟩
  | cons x r =>
    obtain ⟨b, off, rfl, _⟩ := hd 0 x rfl
    exact (clone_any b off cap (x :: r) w hd hl).mono fun e w' ⟨h, h2⟩ => ⟨h, .inr h2⟩

set_option maxHeartbeats 1000000 in
theorem together_any (n : Int) (a : Option Addr) (cap : Nat) (d : List Ed) (w : World) (hd : RowEd w a d) (hl : d.length * 32 ≤ 140737488355328) :
    Calls Try.prog 45 #[.int .i64 n, .slice a d.length cap] w (togPost n d w) := by
  go_enter Try.func45, Try.ntmps45
  go_wp2
  go_loopw [11] (fun p wr => ∃ k : Nat, p = .int .i64 k ∧ k ≤ d.length ∧ Hid (∀ x ∈ d.take k, goodEd n x) ∧ Below w.heap.size w wr)
    (fun p _ => d.length - (intOf p).toNat)
  case atStart => exact ⟨0, rfl, Nat.zero_le _, (fun x h => by simp at h), Below.refl _ _⟩
  case round =>
    obtain ⟨k, rfl, hk, hg, hB⟩ := hrel
    have hl2 : d.length ≤ 140737488355328 := by omega
    by_cases hlt : k < d.length
    · obtain ⟨x, hx⟩ : ∃ x, d[k]? = some x := ⟨d[k], by simp [hlt]⟩
      obtain ⟨b, off, rfl, x0, x1, x2⟩ := hd _ _ hx
      have hb := lt_of_cell x0
      have cx0 : wr.cell? ⟨b, off + k * 3, none⟩ = some (.int .i64 x.1) := (hB.cell (p := ⟨b, _, none⟩) hb).trans x0
      have cx1 : wr.cell? ⟨b, off + k * 3 + 1, none⟩ = some (.int .i64 x.2.1) := (hB.cell (p := ⟨b, _, none⟩) hb).trans x1
      have cx2 : wr.cell? ⟨b, off + k * 3 + 2, none⟩ = some (.string x.2.2) := (hB.cell (p := ⟨b, _, none⟩) hb).trans x2
      have HX := Lib.hid hx
      have hmem : Hid (x ∈ d) := List.mem_of_getElem? hx
      clear x0 x1 x2 hx
      have HD := Lib.hid hd
      clear hd
      by_cases c0 : x.1 < 0
      · go_wp2
        go_ret2
        exact ⟨hB.alloc hB.size _, .inl ⟨fun h => by have := h x hmem.out; unfold goodEd at this; omega, rfl⟩⟩
      · by_cases c1 : x.2.1 < x.1
        · go_wp2
          go_ret2
          exact ⟨hB.alloc hB.size _, .inl ⟨fun h => by have := h x hmem.out; unfold goodEd at this; omega, rfl⟩⟩
        · by_cases c2 : n < x.2.1
          · go_wp2
            go_ret2
            exact ⟨hB.alloc hB.size _, .inl ⟨fun h => by have := h x hmem.out; unfold goodEd at this; omega, rfl⟩⟩
          · have hg2 : Hid (∀ x ∈ d.take (k + 1), goodEd n x) := by
              intro y hy
              rw [List.take_add_one, HX.out] at hy
              rcases List.mem_append.1 hy with h | h
              · exact hg.out y h
              · simp at h; subst h; unfold goodEd; omega
            go_wp2
            go_roundw
            case rel => exact ⟨k + 1, by go_num, by omega, hg2, hB.alloc hB.size _⟩
            case measure => simp [intOf]; omega
    · have hall : Hid (∀ x ∈ d, goodEd n x) := by
        intro x hx
        exact hg.out x (by rw [List.take_of_length_le (by omega)]; exact hx)
      have hB' := hB
      have hd1 : RowEd wr a d := by
        intro i x hx
        obtain ⟨b, off, ha, h0, h1, h2⟩ := hd i x hx
        have hl := lt_of_cell h0
        exact ⟨b, off, ha, (hB.cell (p := ⟨b, _, none⟩) hl).trans h0, (hB.cell (p := ⟨b, _, none⟩) hl).trans h1, (hB.cell (p := ⟨b, _, none⟩) hl).trans h2⟩
      have HC := Lib.hid (clone_all a cap d wr hd1 hl)
      clear hd1 hd hg
      go_wp2_with fail
      refine HC.out.mono ?_
      rintro e w1 ⟨hB1, ⟨rfl, a1, c1, rfl, ha1⟩ | ⟨g, c1, rfl, hg1, hg2, hH⟩⟩
      · have hB2 := hB.trans (hB1.mono hB.size)
        have HO := Lib.hid (overlap_any a1 c1 [] w1 (fun i x h => by simp at h) (by simp))
        go_wp2_with fail
        refine (sort_none _ _ _).mono ?_
        rintro e w' ⟨rfl, rfl⟩
        go_wp2_with fail
        refine HO.out.mono ?_
        rintro e w2 ⟨hB3, ⟨⟨i, x, y, hx, _⟩, _⟩ | ⟨hno, rfl⟩⟩
        · simp at hx
        · have Hno := Lib.hid hno
          clear hno
          go_wp2
          go_ret2
          exact ⟨hB2.trans (hB3.mono hB2.size), .inr ⟨hall.out, [], List.Perm.nil, List.Pairwise.nil, .inr ⟨Hno.out, a1, c1, fun i x h => by simp at h, fun g hg => by have := ha1 g hg; have := hB.size; omega, rfl⟩⟩⟩
      · have hB2 := hB.trans (hB1.mono hB.size)
        have hgw : w.heap.size ≤ g := by have := hB.size; omega
        have HS := Lib.hid (sort_list g c1 d w1 hH hg2 (by omega))
        clear hH
        go_wp2_with fail
        refine HS.out.mono ?_
        rintro e w2 ⟨rfl, hB3, sd, hperm, hsort, hrow⟩
        have hB4 := hB2.trans (hB3.mono hgw)
        have hlen : d.length = sd.length := hperm.length_eq.symm
        have HO := Lib.hid (overlap_any (some ⟨g, 0, none⟩) c1 sd w2 hrow (by omega))
        rw [← hlen] at HO
        have Hp := Lib.hid hperm
        have Hs := Lib.hid hsort
        have Hr := Lib.hid hrow
        have Hl := Lib.hid hlen
        clear hperm hsort hrow hlen
        go_wp2_with fail
        refine HO.out.mono ?_
        rintro e w3 ⟨hB5, ⟨hov, rfl⟩ | ⟨hno, rfl⟩⟩
        · have Hv := Lib.hid hov
          clear hov
          go_wp2
          go_ret2
          exact ⟨hB4.trans (hB5.mono hB4.size), .inr ⟨hall.out, sd, Hp.out, Hs.out, .inl ⟨Hv.out, rfl⟩⟩⟩
        · have Hv := Lib.hid hno
          clear hno
          go_wp2
          go_ret2
          exact ⟨hB4.trans (hB5.mono hB4.size), .inr ⟨hall.out, sd, Hp.out, Hs.out, .inr ⟨Hv.out, some ⟨g, 0, none⟩, c1, Hr.out.below hB5, fun g' hg' => by cases hg'; exact hgw, by rw [← Hl.out]; rfl⟩⟩⟩

end Go.Proofs.Ytmlkeddiagmedaa
