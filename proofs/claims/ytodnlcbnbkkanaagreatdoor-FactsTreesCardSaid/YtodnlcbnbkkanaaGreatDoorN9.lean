import Derived.Laws.EntriesVeiled
import Derived.Laws.BytesArg
import Derived.Test.YtodnlcbnbkkanaaGreatDoorN1
import Derived.Test.YtodnlcbnbkkanaaGreatDoorN2
import Derived.Test.YtodnlcbnbkkanaaGreatDoorN4
import Derived.Test.YtodnlcbnbkkanaaGreatDoorN8
section
namespace Go.Proofs.YtodnlcbnbkkanaaGreatDoor
open Go Go.RowKit

def lx : BS := 1#256 <<< 120
def la : BS := 1#256 <<< 97
theorem lx_w : symV ⟨0, lx, 0⟩ = .agg #[.int .i64 0, .int .u64 0, .int .u64 72057594037927936, .int .u64 0, .int .u64 0, .int .i64 0] := by
  unfold symV symC
  rw [show wdI lx 0 = 0 by decide +kernel, show wdI lx 1 = 72057594037927936 by decide +kernel, show wdI lx 2 = 0 by decide +kernel, show wdI lx 3 = 0 by decide +kernel]
theorem la_w : symV ⟨0, la, 0⟩ = .agg #[.int .i64 0, .int .u64 0, .int .u64 8589934592, .int .u64 0, .int .u64 0, .int .i64 0] := by
  unfold symV symC
  rw [show wdI la 0 = 0 by decide +kernel, show wdI la 1 = 8589934592 by decide +kernel, show wdI la 2 = 0 by decide +kernel, show wdI la 3 = 0 by decide +kernel]

set_option maxRecDepth 100000 in
set_option maxHeartbeats 2000000 in
theorem one_x (w : World) : Calls Tryz.prog 33 #[.int .u8 120] w fun e w' => e = .returned (symV ⟨0, lx, 0⟩) ∧ Below w.heap.size w w' := by
  rw [lx_w]
  have hb := (Blk.new w 60 #[.int .i64 0, .int .u64 0, .int .u64 72057594037927936, .int .u64 0, .int .u64 0, .int .i64 0]).alloc (.cells #[.int .u64 0, .int .u64 72057594037927936, .int .u64 0, .int .u64 0] 47)
  have HB : Hid (Below w.heap.size w ((w.alloc (.cells #[.int .i64 0, .int .u64 0, .int .u64 72057594037927936, .int .u64 0, .int .u64 0, .int .i64 0] 60)).alloc (.cells #[.int .u64 0, .int .u64 72057594037927936, .int .u64 0, .int .u64 0] 47))) := Lib.hid (((Below.refl _ _).alloc (Nat.le_refl _) _).alloc (by simp) _)
  have q0 := hb.cell 0
  have q1 := hb.cell 1
  have q2 := hb.cell 2
  have q3 := hb.cell 3
  have q4 := hb.cell 4
  have q5 := hb.cell 5
  simp only [List.getElem?_toArray, List.getElem?_cons_zero, List.getElem?_cons_succ] at q0 q1 q2 q3 q4 q5
  clear hb
  go_enter Tryz.func33, Tryz.ntmps33
  go_wp2
  refine bodyPost_ret (v := .agg #[.int .i64 0, .int .u64 0, .int .u64 72057594037927936, .int .u64 0, .int .u64 0, .int .i64 0]) (by simp [results, Tryz.results33, go_sem, q0, q1, q2, q3, q4, q5]) rfl ⟨rfl, ?_⟩
  exact HB.out

set_option maxRecDepth 100000 in
set_option maxHeartbeats 2000000 in
theorem one_a (w : World) : Calls Tryz.prog 33 #[.int .u8 97] w fun e w' => e = .returned (symV ⟨0, la, 0⟩) ∧ Below w.heap.size w w' := by
  rw [la_w]
  have hb := (Blk.new w 60 #[.int .i64 0, .int .u64 0, .int .u64 8589934592, .int .u64 0, .int .u64 0, .int .i64 0]).alloc (.cells #[.int .u64 0, .int .u64 8589934592, .int .u64 0, .int .u64 0] 47)
  have HB : Hid (Below w.heap.size w ((w.alloc (.cells #[.int .i64 0, .int .u64 0, .int .u64 8589934592, .int .u64 0, .int .u64 0, .int .i64 0] 60)).alloc (.cells #[.int .u64 0, .int .u64 8589934592, .int .u64 0, .int .u64 0] 47))) := Lib.hid (((Below.refl _ _).alloc (Nat.le_refl _) _).alloc (by simp) _)
  have q0 := hb.cell 0
  have q1 := hb.cell 1
  have q2 := hb.cell 2
  have q3 := hb.cell 3
  have q4 := hb.cell 4
  have q5 := hb.cell 5
  simp only [List.getElem?_toArray, List.getElem?_cons_zero, List.getElem?_cons_succ] at q0 q1 q2 q3 q4 q5
  clear hb
  go_enter Tryz.func33, Tryz.ntmps33
  go_wp2
  refine bodyPost_ret (v := .agg #[.int .i64 0, .int .u64 0, .int .u64 8589934592, .int .u64 0, .int .u64 0, .int .i64 0]) (by simp [results, Tryz.results33, go_sem, q0, q1, q2, q3, q4, q5]) rfl ⟨rfl, ?_⟩
  exact HB.out

set_option maxRecDepth 100000 in
set_option maxHeartbeats 2000000 in
theorem sortSym_any (i : Int) (w : World) : Calls Tryz.prog 32 #[.int .i64 i] w fun e w' => e = .returned (symV ⟨1, 0, i⟩) ∧ Below w.heap.size w w' := by
  have hz : symV ⟨1, 0, i⟩ = .agg #[.int .i64 1, .int .u64 0, .int .u64 0, .int .u64 0, .int .u64 0, .int .i64 i] := by
    unfold symV symC
    rw [show wdI (0 : BS) 0 = 0 by decide +kernel, show wdI (0 : BS) 1 = 0 by decide +kernel, show wdI (0 : BS) 2 = 0 by decide +kernel, show wdI (0 : BS) 3 = 0 by decide +kernel]
  rw [hz]
  have hb := Blk.new w 60 #[.int .i64 1, .int .u64 0, .int .u64 0, .int .u64 0, .int .u64 0, .int .i64 i]
  have HB : Hid (Below w.heap.size w (w.alloc (.cells #[.int .i64 1, .int .u64 0, .int .u64 0, .int .u64 0, .int .u64 0, .int .i64 i] 60))) := Lib.hid ((Below.refl _ _).alloc (Nat.le_refl _) _)
  have q0 := hb.cell 0
  have q1 := hb.cell 1
  have q2 := hb.cell 2
  have q3 := hb.cell 3
  have q4 := hb.cell 4
  have q5 := hb.cell 5
  simp only [List.getElem?_toArray, List.getElem?_cons_zero, List.getElem?_cons_succ] at q0 q1 q2 q3 q4 q5
  clear hb hz
  go_enter Tryz.func32, Tryz.ntmps32
  go_wp2
  refine bodyPost_ret (v := .agg #[.int .i64 1, .int .u64 0, .int .u64 0, .int .u64 0, .int .u64 0, .int .i64 i]) (by simp [results, Tryz.results32, go_sem, q0, q1, q2, q3, q4, q5]) rfl ⟨rfl, HB.out⟩
end Go.Proofs.YtodnlcbnbkkanaaGreatDoor
end
section
namespace Go.Proofs.YtodnlcbnbkkanaaGreatDoor
open Go Go.RowKit

end Go.Proofs.YtodnlcbnbkkanaaGreatDoor
end
section
namespace Go.Proofs.YtodnlcbnbkkanaaGreatDoor
open Go Go.RowKit

structure RN (g : GramM) (w W : World) (S : List Int) : Prop where
  b0 : Blk W w.heap.size 27 (gramC g)
  b1 : Blk W (w.heap.size + 1) 3 (ints S)
  b : Below w.heap.size w W
structure RoundN (g : GramM) (S0 S : List Int) (j : Nat) (c : Bool) : Prop where
  len : S.length = g.sorts.length
  sound : SoundN g S
  no : c = false → S = S0 ∧ ∀ (i : Nat) (x : ProdM), i < j → g.prods[i]? = some x → okN S0 x
  yes : c = true → sizeN S < sizeN S0
def RShortPost (g : GramM) (w : World) (e : Ending) (w' : World) : Prop := ∃ S, ShortP g S ∧ e = .returned (.slice (some ⟨w.heap.size + 1, 0, none⟩) g.sorts.length g.sorts.length) ∧ Blk w' (w.heap.size + 1) 3 (ints S) ∧ Below w.heap.size w w'

end Go.Proofs.YtodnlcbnbkkanaaGreatDoor
end
section
namespace Go.Proofs.YtodnlcbnbkkanaaGreatDoor
open Go Go.RowKit

def nullL (S : List Int) : List Bool := S.map fun n => n == 0
theorem nullP_of {g : GramM} (hm : MayB g) {S : List Int} (h : ShortP g S) : NullP g (nullL S) := by
  refine ⟨by unfold nullL; rw [List.length_map]; exact h.1, fun k => ?_⟩
  unfold nullL
  rw [List.getElem?_map]
  constructor
  · intro hk
    obtain ⟨n, hn, h0⟩ := Option.map_eq_some_iff.1 hk
    have h0' : n = 0 := by simpa using h0
    rcases h.2 k n hn with ⟨e, _⟩ | ⟨t, ht, e, _⟩
    · omega
    · have : t.length = 0 := by omega
      rw [List.length_eq_zero_iff.1 this] at ht
      exact ht
  · intro hk
    obtain ⟨x, hx, hr, hl, _⟩ := hk.out
    obtain ⟨k', e1, e2⟩ := hm.left x hx
    rw [e1, Int.toNat_natCast] at hl
    subst hl
    cases hS : S[k']? with
    | none => have := List.getElem?_eq_none_iff.1 hS; have := h.1; omega
    | some n =>
      rcases h.2 k' n hS with ⟨_, e⟩ | ⟨t, ht, e, h3⟩
      · exact absurd hk (e [])
      · have := h3 [] hk
        simp at this
        have : n = 0 := by omega
        rw [Option.map_some, this]; rfl
structure RNu (w : World) (N : Nat) (S M : List Int) (L : List Bool) (W : World) : Prop where
  b1 : Blk W (w.heap.size + 1 + 1) 3 (ints S)
  b2 : Blk W N 4 (bools L)
  b : Below w.heap.size w W
end Go.Proofs.YtodnlcbnbkkanaaGreatDoor
end
section
namespace Go.Proofs.YtodnlcbnbkkanaaGreatDoor
open Go Go.RowKit

theorem leadE_iff {g : GramM} {M L : List Bool} {k t : Nat} : LeadE g M L k t ↔ ∃ x, x ∈ livL g L ∧ ∃ (i : Nat) (s : SymM), x.right[i]? = some s ∧ s.kind = 1 ∧ AloneP M x i ∧ x.left = k ∧ s.sort = t := by
  unfold LeadE LeadU
  constructor
  · rintro ⟨j, i, x, hx, _, s, h1, h2, h3, h4⟩
    simp only [Prod.mk.injEq] at h4
    exact ⟨x, List.mem_of_getElem? hx, i, s, h1, h2, h3, h4.1.symm, h4.2.symm⟩
  · rintro ⟨x, hx, i, s, h1, h2, h3, h4, h5⟩
    obtain ⟨j, hj⟩ := List.mem_iff_getElem?.1 hx
    exact ⟨j, i, x, hj, .inl (List.getElem?_eq_some_iff.1 hj).1, s, h1, h2, h3, by rw [h4, h5]⟩

def GS (sa pa r0 r1 r3 r4 : Option Addr) : GramM := ⟨sa, 3, [⟨#[83]⟩, ⟨#[65]⟩, ⟨#[66]⟩], pa, 5,
  [⟨0, r0, 2, [⟨1, 0, 1⟩, ⟨1, 0, 0⟩], ⟨#[]⟩, 0, false, false, -1⟩, ⟨0, r1, 1, [⟨0, lx, 0⟩], ⟨#[]⟩, 0, false, false, -1⟩, ⟨1, none, 0, [], ⟨#[]⟩, 0, false, false, -1⟩, ⟨1, r3, 2, [⟨0, la, 0⟩, ⟨1, 0, 1⟩], ⟨#[]⟩, 0, false, false, -1⟩, ⟨2, r4, 1, [⟨1, 0, 2⟩], ⟨#[]⟩, 0, false, false, -1⟩],
  0, none, 0, [], none, 0, []⟩
section
variable (sa pa r0 r1 r3 r4 : Option Addr)
theorem GS_check : checkB (GS sa pa r0 r1 r3 r4) = true := by kernel_rfl
theorem GS_mem {x : ProdM} (h : x ∈ (GS sa pa r0 r1 r3 r4).prods) : x = ⟨0, r0, 2, [⟨1, 0, 1⟩, ⟨1, 0, 0⟩], ⟨#[]⟩, 0, false, false, -1⟩ ∨ x = ⟨0, r1, 1, [⟨0, lx, 0⟩], ⟨#[]⟩, 0, false, false, -1⟩ ∨ x = ⟨1, none, 0, [], ⟨#[]⟩, 0, false, false, -1⟩ ∨ x = ⟨1, r3, 2, [⟨0, la, 0⟩, ⟨1, 0, 1⟩], ⟨#[]⟩, 0, false, false, -1⟩ ∨ x = ⟨2, r4, 1, [⟨1, 0, 2⟩], ⟨#[]⟩, 0, false, false, -1⟩ := by
  simpa [GS] using h
theorem GS_t1 : TX (GS sa pa r0 r1 r3 r4) 1 [] := TX.mk (g := GS sa pa r0 r1 r3 r4) (x := ⟨1, none, 0, [], ⟨#[]⟩, 0, false, false, -1⟩) (by simp [GS]) (show (0 : Int) ≠ 11 by decide) rfl
theorem GS_t0 : TX (GS sa pa r0 r1 r3 r4) 0 [120] := TX.mk (g := GS sa pa r0 r1 r3 r4) (x := ⟨0, r1, 1, [⟨0, lx, 0⟩], ⟨#[]⟩, 0, false, false, -1⟩) (by simp [GS]) (show (0 : Int) ≠ 11 by decide) ⟨[120], [], rfl, .inr ⟨by decide, 120, rfl, by decide +kernel⟩, rfl⟩
theorem GS_short : ShortP (GS sa pa r0 r1 r3 r4) [1, 0, -1] := by
  refine shortP_of (mayB_of (GS_check sa pa r0 r1 r3 r4)) (by simp [GS]) ?_ ?_
  · intro k n hk
    match k with
    | 0 => simp at hk; subst hk; exact .inr ⟨[120], GS_t0 sa pa r0 r1 r3 r4, by decide⟩
    | 1 => simp at hk; subst hk; exact .inr ⟨[], GS_t1 sa pa r0 r1 r3 r4, by decide⟩
    | 2 => simp at hk; subst hk; exact .inl rfl
    | k + 3 => simp at hk
  · intro x hx
    rcases GS_mem _ _ _ _ _ _ hx with rfl | rfl | rfl | rfl | rfl
    · intro _ _; exact ⟨by dsimp only; decide, by dsimp only; decide +kernel⟩
    · intro _ _; exact ⟨by dsimp only; decide, by dsimp only; decide +kernel⟩
    · intro _ _; exact ⟨by dsimp only; decide, by dsimp only; decide +kernel⟩
    · intro _ _; exact ⟨by dsimp only; decide, by dsimp only; decide +kernel⟩
    · intro _ h; exact absurd h (by dsimp only; decide +kernel)
theorem GS_isS {S : List Int} (h : ShortP (GS sa pa r0 r1 r3 r4) S) : S = [1, 0, -1] := h.unique (GS_short sa pa r0 r1 r3 r4)
theorem GS_isN {M : List Bool} (h : NullP (GS sa pa r0 r1 r3 r4) M) : M = [false, true, false] := h.unique (nullP_of (mayB_of (GS_check sa pa r0 r1 r3 r4)) (GS_short sa pa r0 r1 r3 r4))
theorem GS_live : Live (GS sa pa r0 r1 r3 r4) [true, true, false] := by
  have hs := maySet_of (GS_check sa pa r0 r1 r3 r4)
  refine live_of (by simp [GS]) ?_ ?_
  · intro k hk
    match k with
    | 0 => exact (pv_iff hs).2 ⟨_, GS_t0 sa pa r0 r1 r3 r4⟩
    | 1 => exact (pv_iff hs).2 ⟨_, GS_t1 sa pa r0 r1 r3 r4⟩
    | 2 => simp at hk
    | k + 3 => simp at hk
  · intro x hx hok
    rcases GS_mem _ _ _ _ _ _ hx with rfl | rfl | rfl | rfl | rfl
    · rfl
    · rfl
    · rfl
    · rfl
    · exact absurd (hok.symm.trans (show okP [true, true, false] ⟨2, r4, 1, [⟨1, 0, 2⟩], ⟨#[]⟩, 0, false, false, -1⟩ = false from rfl)) (by decide)
theorem GS_lead {k t : Nat} : LeadE (GS sa pa r0 r1 r3 r4) [false, true, false] [true, true, false] k t ↔ k = 0 ∧ t = 0 := by
  rw [leadE_iff]
  constructor
  · rintro ⟨x, hx, i, s, h1, h2, h3, h4, h5⟩
    have hx' := livL_mem.1 hx
    rcases GS_mem _ _ _ _ _ _ hx'.1 with rfl | rfl | rfl | rfl | rfl
    · match i with
      | 0 =>
        have := h3 1 ⟨1, 0, 0⟩ rfl (by decide)
        exact absurd this (by decide)
      | 1 =>
        simp at h1
        subst h1
        simp at h4 h5
        omega
      | i + 2 => simp at h1
    · match i with
      | 0 => simp at h1; subst h1; simp at h2
      | i + 1 => simp at h1
    · simp at h1
    · match i with
      | 0 => simp at h1; subst h1; simp at h2
      | 1 =>
        have := h3 0 ⟨0, la, 0⟩ rfl (by decide)
        exact absurd this (by decide)
      | i + 2 => simp at h1
    · exact absurd hx'.2.2 (by dsimp only; decide)
  · rintro ⟨rfl, rfl⟩
    refine ⟨⟨0, r0, 2, [⟨1, 0, 1⟩, ⟨1, 0, 0⟩], ⟨#[]⟩, 0, false, false, -1⟩, livL_mem.2 ⟨by simp [GS], (show (0 : Int) ≠ 11 by decide), by dsimp only; decide⟩, 1, ⟨1, 0, 0⟩, rfl, rfl, fun i s hi hne => ?_, rfl, rfl⟩
    match i with
    | 0 => simp at hi; subst hi; rfl
    | 1 => exact absurd rfl hne
    | i + 2 => simp at hi
theorem GS_circ {R : List Bool} (h : CircP (GS sa pa r0 r1 r3 r4) R) : R = [true, false, false] := by
  obtain ⟨hl, M, L, hM, hL, hR⟩ := h
  obtain rfl := GS_isN _ _ _ _ _ _ hM
  obtain rfl := hL.unique (GS_live sa pa r0 r1 r3 r4)
  have hl3 : R.length = 3 := hl
  have hno : ∀ {a b : Nat}, Far (LeadE (GS sa pa r0 r1 r3 r4) [false, true, false] [true, true, false]) a b → a = 0 ∧ b = 0 := fun h => by
    induction h with
    | one e => exact (GS_lead _ _ _ _ _ _).1 e
    | more _ e ih => exact ⟨ih.1, ((GS_lead _ _ _ _ _ _).1 e).2⟩
  have h0 : R[0]? = some true := (hR 0 (by simp [GS])).2 (.one ((GS_lead _ _ _ _ _ _).2 ⟨rfl, rfl⟩))
  have h1 : R[1]? ≠ some true := fun h => by have := hno ((hR 1 (by simp [GS])).1 h); omega
  have h2 : R[2]? ≠ some true := fun h => by have := hno ((hR 2 (by simp [GS])).1 h); omega
  match R, hl3 with
  | [a, b, c], _ =>
    simp at h0 h1 h2
    rw [h0, h1, h2]
theorem GS_lt {t : List UInt8} (h : LT (GS sa pa r0 r1 r3 r4) 0 t) : t = [120] := by
  have key : ∀ {k : Nat} {t : List UInt8}, TX (GS sa pa r0 r1 r3 r4) k t → k = 0 → code [120] ≤ code t := fun {k t} ht => by
    refine TX.ind (P := fun k t => k = 0 → code [120] ≤ code t) (fun x t hx hr _ h2 => ?_) ht
    rcases GS_mem _ _ _ _ _ _ hx with rfl | rfl | rfl | rfl | rfl
    · intro _
      obtain ⟨a, b, rfl, _, c, d, rfl, h3, h4⟩ := h2
      cases h4
      rcases h3 with ⟨_, h3⟩ | ⟨h3, _⟩
      · have := h3 rfl
        rw [List.append_nil]
        exact Nat.le_trans this (code_right a c)
      · exact absurd rfl h3
    · intro _
      obtain ⟨a, b, rfl, h3, h4⟩ := h2
      cases h4
      rcases h3 with ⟨h3, _⟩ | ⟨_, c, rfl, hc⟩
      · cases h3
      · have : c = 120 := by
          have hc2 : (1#256 <<< 120).getLsbD c.toNat = true := hc
          rw [BitVec.getLsbD_shiftLeft] at hc2
          simp at hc2
          exact UInt8.toNat_inj.1 (show c.toNat = 120 by omega)
        rw [this]
        exact Nat.le_refl _
    · intro h; cases h
    · intro h; cases h
    · intro h; cases h
  have h0 := key h.1 rfl
  exact code_inj (Nat.le_antisymm (h.2 _ (GS_t0 sa pa r0 r1 r3 r4)) h0)
end
end Go.Proofs.YtodnlcbnbkkanaaGreatDoor
end
section
namespace Go.Proofs.YtodnlcbnbkkanaaGreatDoor
open Go Go.RowKit

theorem row_blk {α : Type} {cs : α → Array Value} {k : Nat} {G : World → α → Prop} (hk : ∀ x, (cs x).size = k) {W : World} {B t : Nat} {c : Array Value} {l : List α} (h : Blk W B t c) (hc : c.toList = cellsL cs l) (hG : ∀ x, x ∈ l → G W x) :
    RowOf k cs G W (some ⟨B, 0, none⟩) l := fun i x hx => by
  refine ⟨B, 0, rfl, h.lt, fun j v hv => ?_, hG x (List.mem_of_getElem? hx)⟩
  have hj : j < k := by
    have := (Array.getElem?_eq_some_iff.1 hv).1
    rw [hk] at this; exact this
  rw [Nat.zero_add, h.cell, ← Array.getElem?_toList, hc, cellsL_at hk l i x hx j hj]
  exact hv
structure GSIn (w : World) (sa pa r0 r1 r3 r4 : Nat) : Prop where
  s : Blk w sa 9 #[.string ⟨#[83]⟩, .string ⟨#[65]⟩, .string ⟨#[66]⟩]
  p : Blk w pa 65 #[.int .i64 0, .slice (some ⟨r0, 0, none⟩) 2 2, .string ⟨#[]⟩, .int .i64 0, .bool false, .bool false, .int .i64 (-1), .int .i64 0, .slice (some ⟨r1, 0, none⟩) 1 1, .string ⟨#[]⟩, .int .i64 0, .bool false, .bool false, .int .i64 (-1), .int .i64 1, .slice none 0 0, .string ⟨#[]⟩, .int .i64 0, .bool false, .bool false, .int .i64 (-1), .int .i64 1, .slice (some ⟨r3, 0, none⟩) 2 2, .string ⟨#[]⟩, .int .i64 0, .bool false, .bool false, .int .i64 (-1), .int .i64 2, .slice (some ⟨r4, 0, none⟩) 1 1, .string ⟨#[]⟩, .int .i64 0, .bool false, .bool false, .int .i64 (-1)]
  a0 : Blk w r0 60 (symC ⟨1, 0, 1⟩ ++ symC ⟨1, 0, 0⟩)
  a1 : Blk w r1 60 (symC ⟨0, lx, 0⟩)
  a3 : Blk w r3 60 (symC ⟨0, la, 0⟩ ++ symC ⟨1, 0, 1⟩)
  a4 : Blk w r4 60 (symC ⟨1, 0, 2⟩)
def GSa (sa pa r0 r1 r3 r4 : Nat) : GramM := GS (some ⟨sa, 0, none⟩) (some ⟨pa, 0, none⟩) (some ⟨r0, 0, none⟩) (some ⟨r1, 0, none⟩) (some ⟨r3, 0, none⟩) (some ⟨r4, 0, none⟩)
theorem GSIn.inn {w : World} {sa pa r0 r1 r3 r4 : Nat} (h : GSIn w sa pa r0 r1 r3 r4) : GIn w (GSa sa pa r0 r1 r3 r4) := by
  refine ⟨row_blk (cs := strC) (k := 1) (fun _ => rfl) h.s (by simp [cellsL, strC, GSa, GS]) (fun _ _ => trivial), row_blk (cs := prodC) (k := 7) (fun _ => rfl) h.p (by simp [cellsL, prodC, GSa, GS]) (fun x hx => ?_), RowOf.nil _, RowOf.nil _⟩
  rcases GS_mem _ _ _ _ _ _ hx with rfl | rfl | rfl | rfl | rfl
  · exact row_blk (cs := symC) (k := 6) (fun _ => rfl) h.a0 (by simp [cellsL]) (fun _ _ => trivial)
  · exact row_blk (cs := symC) (k := 6) (fun _ => rfl) h.a1 (by simp [cellsL]) (fun _ _ => trivial)
  · exact RowOf.nil _
  · exact row_blk (cs := symC) (k := 6) (fun _ => rfl) h.a3 (by simp [cellsL]) (fun _ _ => trivial)
  · exact row_blk (cs := symC) (k := 6) (fun _ => rfl) h.a4 (by simp [cellsL]) (fun _ _ => trivial)
theorem GSIn.below {w W : World} {sa pa r0 r1 r3 r4 : Nat} (h : GSIn w sa pa r0 r1 r3 r4) (hB : Below w.heap.size w W) : GSIn W sa pa r0 r1 r3 r4 :=
  ⟨h.s.below hB h.s.lt, h.p.below hB h.p.lt, h.a0.below hB h.a0.lt, h.a1.below hB h.a1.lt, h.a3.below hB h.a3.lt, h.a4.below hB h.a4.lt⟩
theorem GS_fit (sa pa r0 r1 r3 r4 : Nat) : FitG (GSa sa pa r0 r1 r3 r4) := by
  refine ⟨⟨by simp [GSa, GS], by simp [GSa, GS], fun x hx => ?_, by simp [GSa, GS], by simp [GSa, GS], fun f hf => by simp [GSa, GS] at hf, fun s hs => ?_⟩, fun f hf => by simp [GSa, GS] at hf, fun f hf => by simp [GSa, GS] at hf⟩
  · rcases GS_mem _ _ _ _ _ _ hx with rfl | rfl | rfl | rfl | rfl <;> simp
  · simp only [GSa, GS, List.mem_cons, List.not_mem_nil, or_false] at hs
    rcases hs with rfl | rfl | rfl <;> decide
theorem cells5s {W : World} {B t : Nat} {u0 u1 u2 u3 u4 : Value} (h : Blk W B t #[u0, u1, u2, u3, u4]) : W.cell? ⟨B, 0, none⟩ = some u0 ∧ W.cell? ⟨B, 1, none⟩ = some u1 ∧ W.cell? ⟨B, 2, none⟩ = some u2 ∧ W.cell? ⟨B, 3, none⟩ = some u3 ∧ W.cell? ⟨B, 4, none⟩ = some u4 :=
  ⟨h.cell 0, h.cell 1, h.cell 2, h.cell 3, h.cell 4⟩
def SmpPost (w : World) (e : Ending) (w' : World) : Prop := ∃ sa pa r0 r1 r3 r4, GSIn w' sa pa r0 r1 r3 r4 ∧ e = .returned (gramV (GSa sa pa r0 r1 r3 r4)) ∧ Below w.heap.size w w'

set_option maxRecDepth 100000 in
set_option maxHeartbeats 4000000 in
theorem smp_any (w : World) : Calls Tryz.prog 40 #[] w (SmpPost w) := by
  have HS := Lib.hid (fun i W => sortSym_any i W)
  have HLx := Lib.hid one_x
  have HLa := Lib.hid one_a
  obtain ⟨z, hz⟩ : ∃ z : BS, z = 0 := ⟨_, rfl⟩
  obtain ⟨bx, hbx⟩ : ∃ z : BS, z = lx := ⟨_, rfl⟩
  obtain ⟨ba, hba⟩ : ∃ z : BS, z = la := ⟨_, rfl⟩
  rw [← hz] at HS
  rw [← hbx] at HLx
  rw [← hba] at HLa
  have HZ := Lib.hid hz
  have HX := Lib.hid hbx
  have HA := Lib.hid hba
  clear hz hbx hba
  unfold symV symC at HS HLx HLa
  go_enter Tryz.func40, Tryz.ntmps40
  go_wp2_with fail
  have HB0 : Hid (Below w.heap.size w ((w.alloc (.cells #[.slice none 0 0, .slice none 0 0, .int .i64 0, .slice none 0 0, .slice none 0 0] 27)).alloc (.cells #[.string ⟨#[83]⟩, .string ⟨#[65]⟩, .string ⟨#[66]⟩] 9))) := Lib.hid (((Below.refl _ _).alloc (Nat.le_refl _) _).alloc (by simp) _)
  have HG0 : Hid (Blk ((w.alloc (.cells #[.slice none 0 0, .slice none 0 0, .int .i64 0, .slice none 0 0, .slice none 0 0] 27)).alloc (.cells #[.string ⟨#[83]⟩, .string ⟨#[65]⟩, .string ⟨#[66]⟩] 9)) w.heap.size 27 #[.slice none 0 0, .slice none 0 0, .int .i64 0, .slice none 0 0, .slice none 0 0]) := Lib.hid ((Blk.new w 27 _).alloc _)
  have HK0 : Hid (Blk ((w.alloc (.cells #[.slice none 0 0, .slice none 0 0, .int .i64 0, .slice none 0 0, .slice none 0 0] 27)).alloc (.cells #[.string ⟨#[83]⟩, .string ⟨#[65]⟩, .string ⟨#[66]⟩] 9)) (w.heap.size + 1) 9 #[.string ⟨#[83]⟩, .string ⟨#[65]⟩, .string ⟨#[66]⟩]) := Lib.hid (by
    have h := Blk.new (w.alloc (.cells #[.slice none 0 0, .slice none 0 0, .int .i64 0, .slice none 0 0, .slice none 0 0] 27)) 9 #[.string ⟨#[83]⟩, .string ⟨#[65]⟩, .string ⟨#[66]⟩]
    rw [World.size_alloc] at h
    exact h)
  with_reducible refine (HS.out 1 _).mono ?_
  rintro e w1 ⟨rfl, hB1⟩
  have HG1 := Lib.hid (HG0.out.below hB1 HG0.out.lt)
  have HK1 := Lib.hid (HK0.out.below hB1 HK0.out.lt)
  have HB1 := Lib.hid (HB0.out.trans (hB1.mono HB0.out.size))
  clear hB1 HG0 HK0 HB0
  go_wp2_with fail
  with_reducible refine (HS.out 0 _).mono ?_
  rintro e w2 ⟨rfl, hB2⟩
  have HG2 := Lib.hid (HG1.out.below hB2 HG1.out.lt)
  have HK2 := Lib.hid (HK1.out.below hB2 HK1.out.lt)
  have HB2 := Lib.hid (HB1.out.trans (hB2.mono HB1.out.size))
  clear hB2 HG1 HK1 HB1
  have hA2 : Below w2.heap.size w2 (w2.alloc (.cells #[.int .i64 1, .int .u64 (wdI z 0), .int .u64 (wdI z 1), .int .u64 (wdI z 2), .int .u64 (wdI z 3), .int .i64 1, .int .i64 1, .int .u64 (wdI z 0), .int .u64 (wdI z 1), .int .u64 (wdI z 2), .int .u64 (wdI z 3), .int .i64 0] 60)) := (Below.refl _ _).alloc (Nat.le_refl _) _
  have HG2a := Lib.hid (HG2.out.below hA2 HG2.out.lt)
  have HK2a := Lib.hid (HK2.out.below hA2 HK2.out.lt)
  have HR2a := Lib.hid (Blk.new w2 60 #[.int .i64 1, .int .u64 (wdI z 0), .int .u64 (wdI z 1), .int .u64 (wdI z 2), .int .u64 (wdI z 3), .int .i64 1, .int .i64 1, .int .u64 (wdI z 0), .int .u64 (wdI z 1), .int .u64 (wdI z 2), .int .u64 (wdI z 3), .int .i64 0])
  have HB2a := Lib.hid (HB2.out.trans (hA2.mono HB2.out.size))
  clear hA2 HG2 HK2 HB2
  have HG2 := HG2a
  clear HG2a
  have HK2 := HK2a
  clear HK2a
  have HR2 := HR2a
  clear HR2a
  have HB2 := HB2a
  clear HB2a
  go_wp2_with fail
  with_reducible refine (HLx.out _).mono ?_
  rintro e w3 ⟨rfl, hB3⟩
  have HG3 := Lib.hid (HG2.out.below hB3 HG2.out.lt)
  have HK3 := Lib.hid (HK2.out.below hB3 HK2.out.lt)
  have HR3 := Lib.hid (HR2.out.below hB3 HR2.out.lt)
  have HB3 := Lib.hid (HB2.out.trans (hB3.mono HB2.out.size))
  clear hB3 HG2 HK2 HR2 HB2
  have hA3 : Below w3.heap.size w3 (w3.alloc (.cells #[.int .i64 0, .int .u64 (wdI bx 0), .int .u64 (wdI bx 1), .int .u64 (wdI bx 2), .int .u64 (wdI bx 3), .int .i64 0] 60)) := (Below.refl _ _).alloc (Nat.le_refl _) _
  have HG3a := Lib.hid (HG3.out.below hA3 HG3.out.lt)
  have HK3a := Lib.hid (HK3.out.below hA3 HK3.out.lt)
  have HR3a := Lib.hid (HR3.out.below hA3 HR3.out.lt)
  have HT3a := Lib.hid (Blk.new w3 60 #[.int .i64 0, .int .u64 (wdI bx 0), .int .u64 (wdI bx 1), .int .u64 (wdI bx 2), .int .u64 (wdI bx 3), .int .i64 0])
  have HB3a := Lib.hid (HB3.out.trans (hA3.mono HB3.out.size))
  clear hA3 HG3 HK3 HR3 HB3
  have HG3 := HG3a
  clear HG3a
  have HK3 := HK3a
  clear HK3a
  have HR3 := HR3a
  clear HR3a
  have HT3 := HT3a
  clear HT3a
  have HB3 := HB3a
  clear HB3a
  go_wp2_with fail
  with_reducible refine (HLa.out _).mono ?_
  rintro e w4 ⟨rfl, hB4⟩
  have HG4 := Lib.hid (HG3.out.below hB4 HG3.out.lt)
  have HK4 := Lib.hid (HK3.out.below hB4 HK3.out.lt)
  have HR4 := Lib.hid (HR3.out.below hB4 HR3.out.lt)
  have HT4 := Lib.hid (HT3.out.below hB4 HT3.out.lt)
  have HB4 := Lib.hid (HB3.out.trans (hB4.mono HB3.out.size))
  clear hB4 HG3 HK3 HR3 HT3 HB3
  go_wp2_with fail
  with_reducible refine (HS.out 1 _).mono ?_
  rintro e w5 ⟨rfl, hB5⟩
  have HG5 := Lib.hid (HG4.out.below hB5 HG4.out.lt)
  have HK5 := Lib.hid (HK4.out.below hB5 HK4.out.lt)
  have HR5 := Lib.hid (HR4.out.below hB5 HR4.out.lt)
  have HT5 := Lib.hid (HT4.out.below hB5 HT4.out.lt)
  have HB5 := Lib.hid (HB4.out.trans (hB5.mono HB4.out.size))
  clear hB5 HG4 HK4 HR4 HT4 HB4
  have hA5 : Below w5.heap.size w5 (w5.alloc (.cells #[.int .i64 0, .int .u64 (wdI ba 0), .int .u64 (wdI ba 1), .int .u64 (wdI ba 2), .int .u64 (wdI ba 3), .int .i64 0, .int .i64 1, .int .u64 (wdI z 0), .int .u64 (wdI z 1), .int .u64 (wdI z 2), .int .u64 (wdI z 3), .int .i64 1] 60)) := (Below.refl _ _).alloc (Nat.le_refl _) _
  have HG5a := Lib.hid (HG5.out.below hA5 HG5.out.lt)
  have HK5a := Lib.hid (HK5.out.below hA5 HK5.out.lt)
  have HR5a := Lib.hid (HR5.out.below hA5 HR5.out.lt)
  have HT5a := Lib.hid (HT5.out.below hA5 HT5.out.lt)
  have HU5a := Lib.hid (Blk.new w5 60 #[.int .i64 0, .int .u64 (wdI ba 0), .int .u64 (wdI ba 1), .int .u64 (wdI ba 2), .int .u64 (wdI ba 3), .int .i64 0, .int .i64 1, .int .u64 (wdI z 0), .int .u64 (wdI z 1), .int .u64 (wdI z 2), .int .u64 (wdI z 3), .int .i64 1])
  have HB5a := Lib.hid (HB5.out.trans (hA5.mono HB5.out.size))
  clear hA5 HG5 HK5 HR5 HT5 HB5
  have HG5 := HG5a
  clear HG5a
  have HK5 := HK5a
  clear HK5a
  have HR5 := HR5a
  clear HR5a
  have HT5 := HT5a
  clear HT5a
  have HU5 := HU5a
  clear HU5a
  have HB5 := HB5a
  clear HB5a
  go_wp2_with fail
  with_reducible refine (HS.out 2 _).mono ?_
  rintro e w6 ⟨rfl, hB6⟩
  have HG6 := Lib.hid (HG5.out.below hB6 HG5.out.lt)
  have HK6 := Lib.hid (HK5.out.below hB6 HK5.out.lt)
  have HR6 := Lib.hid (HR5.out.below hB6 HR5.out.lt)
  have HT6 := Lib.hid (HT5.out.below hB6 HT5.out.lt)
  have HU6 := Lib.hid (HU5.out.below hB6 HU5.out.lt)
  have HB6 := Lib.hid (HB5.out.trans (hB6.mono HB5.out.size))
  clear hB6 HG5 HK5 HR5 HT5 HU5 HB5
  have f0 := HG6.out.frozen 0
  have f1 := HG6.out.frozen 1
  have f2 := HG6.out.frozen 2
  have f3 := HG6.out.frozen 3
  have f4 := HG6.out.frozen 4
  obtain ⟨c0, c1, c2, c3, c4⟩ := cells5s HG6.out
  have lg := HG6.out.lt
  go_wp2
  obtain ⟨V, hV⟩ : ∃ V, V = (((((w6.setCell ⟨w.heap.size, 0, none⟩ (.slice (some ⟨w.heap.size + 1, 0, none⟩) 3 3)).setCell ⟨w.heap.size, 1, none⟩ (.slice (some ⟨w6.heap.size + 1, 0, none⟩) 5 5)).setCell ⟨w.heap.size, 2, none⟩ (.int .i64 0)).setCell ⟨w.heap.size, 3, none⟩ (.slice none 0 0)).setCell ⟨w.heap.size, 4, none⟩ (.slice none 0 0)) := ⟨_, rfl⟩
  have hvs : V.heap.size = w6.heap.size := by rw [hV]; simp only [World.size_setCell]
  have hG : Blk V w.heap.size 27 #[.slice (some ⟨w.heap.size + 1, 0, none⟩) 3 3, .slice (some ⟨w6.heap.size + 1, 0, none⟩) 5 5, .int .i64 0, .slice none 0 0, .slice none 0 0] := by
    have h := ((((HG6.out.set 0 (.slice (some ⟨w.heap.size + 1, 0, none⟩) 3 3)).set 1 (.slice (some ⟨w6.heap.size + 1, 0, none⟩) 5 5)).set 2 (.int .i64 0)).set 3 (.slice none 0 0)).set 4 (.slice none 0 0)
    rw [hV]
    exact h
  have hkn := blk_ne HK6.out HG6.out (by decide)
  have HK7 := Lib.hid (show Blk V _ _ _ by rw [hV]; exact ((((HK6.out.other hkn _).other hkn _).other hkn _).other hkn _).other hkn _)
  have hrn := blk_ne HR6.out HG6.out (by decide)
  have HR7 := Lib.hid (show Blk V _ _ _ by rw [hV]; exact ((((HR6.out.other hrn _).other hrn _).other hrn _).other hrn _).other hrn _)
  have htn := blk_ne HT6.out HG6.out (by decide)
  have HT7 := Lib.hid (show Blk V _ _ _ by rw [hV]; exact ((((HT6.out.other htn _).other htn _).other htn _).other htn _).other htn _)
  have hun := blk_ne HU6.out HG6.out (by decide)
  have HU7 := Lib.hid (show Blk V _ _ _ by rw [hV]; exact ((((HU6.out.other hun _).other hun _).other hun _).other hun _).other hun _)
  have hB7 : Below w.heap.size w V := by rw [hV]; exact ((((HB6.out.setCell (p := ⟨w.heap.size, 0, none⟩) (Nat.le_refl _) _).setCell (p := ⟨w.heap.size, 1, none⟩) (Nat.le_refl _) _).setCell (p := ⟨w.heap.size, 2, none⟩) (Nat.le_refl _) _).setCell (p := ⟨w.heap.size, 3, none⟩) (Nat.le_refl _) _).setCell (p := ⟨w.heap.size, 4, none⟩) (Nat.le_refl _) _
  rw [← hV]
  obtain ⟨W7, hW7⟩ : ∃ W, W = (V.alloc (.cells #[.int .i64 1, .int .u64 (wdI z 0), .int .u64 (wdI z 1), .int .u64 (wdI z 2), .int .u64 (wdI z 3), .int .i64 2] 60)).alloc (.cells #[.int .i64 0, .slice (some ⟨w2.heap.size, 0, none⟩) 2 2, .string ⟨#[]⟩, .int .i64 0, .bool false, .bool false, .int .i64 (-1), .int .i64 0, .slice (some ⟨w3.heap.size, 0, none⟩) 1 1, .string ⟨#[]⟩, .int .i64 0, .bool false, .bool false, .int .i64 (-1), .int .i64 1, .slice none 0 0, .string ⟨#[]⟩, .int .i64 0, .bool false, .bool false, .int .i64 (-1), .int .i64 1, .slice (some ⟨w5.heap.size, 0, none⟩) 2 2, .string ⟨#[]⟩, .int .i64 0, .bool false, .bool false, .int .i64 (-1), .int .i64 2, .slice (some ⟨w6.heap.size, 0, none⟩) 1 1, .string ⟨#[]⟩, .int .i64 0, .bool false, .bool false, .int .i64 (-1)] 65) := ⟨_, rfl⟩
  have hA7 : Below V.heap.size V W7 := by rw [hW7]; exact ((Below.refl _ _).alloc (Nat.le_refl _) _).alloc (by simp) _
  have hv7 : Blk W7 w6.heap.size 60 #[.int .i64 1, .int .u64 (wdI z 0), .int .u64 (wdI z 1), .int .u64 (wdI z 2), .int .u64 (wdI z 3), .int .i64 2] := by rw [hW7, ← hvs]; exact (Blk.new V 60 _).alloc _
  have hp7 : Blk W7 (w6.heap.size + 1) 65 #[.int .i64 0, .slice (some ⟨w2.heap.size, 0, none⟩) 2 2, .string ⟨#[]⟩, .int .i64 0, .bool false, .bool false, .int .i64 (-1), .int .i64 0, .slice (some ⟨w3.heap.size, 0, none⟩) 1 1, .string ⟨#[]⟩, .int .i64 0, .bool false, .bool false, .int .i64 (-1), .int .i64 1, .slice none 0 0, .string ⟨#[]⟩, .int .i64 0, .bool false, .bool false, .int .i64 (-1), .int .i64 1, .slice (some ⟨w5.heap.size, 0, none⟩) 2 2, .string ⟨#[]⟩, .int .i64 0, .bool false, .bool false, .int .i64 (-1), .int .i64 2, .slice (some ⟨w6.heap.size, 0, none⟩) 1 1, .string ⟨#[]⟩, .int .i64 0, .bool false, .bool false, .int .i64 (-1)] := by
    have h := Blk.new (V.alloc (.cells #[.int .i64 1, .int .u64 (wdI z 0), .int .u64 (wdI z 1), .int .u64 (wdI z 2), .int .u64 (wdI z 3), .int .i64 2] 60)) 65 #[.int .i64 0, .slice (some ⟨w2.heap.size, 0, none⟩) 2 2, .string ⟨#[]⟩, .int .i64 0, .bool false, .bool false, .int .i64 (-1), .int .i64 0, .slice (some ⟨w3.heap.size, 0, none⟩) 1 1, .string ⟨#[]⟩, .int .i64 0, .bool false, .bool false, .int .i64 (-1), .int .i64 1, .slice none 0 0, .string ⟨#[]⟩, .int .i64 0, .bool false, .bool false, .int .i64 (-1), .int .i64 1, .slice (some ⟨w5.heap.size, 0, none⟩) 2 2, .string ⟨#[]⟩, .int .i64 0, .bool false, .bool false, .int .i64 (-1), .int .i64 2, .slice (some ⟨w6.heap.size, 0, none⟩) 1 1, .string ⟨#[]⟩, .int .i64 0, .bool false, .bool false, .int .i64 (-1)]
    rw [World.size_alloc, hvs] at h
    rw [hW7]; exact h
  have HK8 := Lib.hid (HK7.out.below hA7 HK7.out.lt)
  have HR8 := Lib.hid (HR7.out.below hA7 HR7.out.lt)
  have HT8 := Lib.hid (HT7.out.below hA7 HT7.out.lt)
  have HU8 := Lib.hid (HU7.out.below hA7 HU7.out.lt)
  have hG8 := hG.below hA7 hG.lt
  have HB8 := Lib.hid (hB7.trans (hA7.mono hB7.size))
  have HIn : Hid (GSIn W7 (w.heap.size + 1) (w6.heap.size + 1) w2.heap.size w3.heap.size w5.heap.size w6.heap.size) := Lib.hid ⟨HK8.out, hp7, by
    have h := HR8.out
    rw [HZ.out] at h; exact h, by
    have h := HT8.out
    rw [HX.out] at h; exact h, by
    have h := HU8.out
    rw [HA.out, HZ.out] at h; exact h, by
    have h := hv7
    rw [HZ.out] at h; exact h⟩
  obtain ⟨q0, q1, q2, q3, q4⟩ := cells5s hG8
  rw [← hW7]
  clear hW7 hG8 hv7 hp7 hA7 hG hV
  refine bodyPost_ret (v := .agg #[.slice (some ⟨w.heap.size + 1, 0, none⟩) 3 3, .slice (some ⟨w6.heap.size + 1, 0, none⟩) 5 5, .int .i64 0, .slice none 0 0, .slice none 0 0]) (by simp [results, Tryz.results40, go_sem, q0, q1, q2, q3, q4]) rfl ⟨_, _, _, _, _, _, HIn.out, rfl, HB8.out⟩
end Go.Proofs.YtodnlcbnbkkanaaGreatDoor
end
section
namespace Go.Proofs.YtodnlcbnbkkanaaGreatDoor
open Go Go.RowKit

set_option maxHeartbeats 400000 in
theorem errno_any (n : Int) (w : World) : Calls Tryz.prog 25 #[.int .i64 n] w fun e w' => e = .returned (.int .i64 n) ∧ w = w' := by
  go_enter Tryz.func25, Tryz.ntmps25
  go_wp2
  go_ret
  exact ⟨rfl, rfl⟩
def boolsB (a b : List Bool) (e n : Int) : Bool := if e = n ∧ n = 0 then a == b else (e == n && a.isEmpty)
end Go.Proofs.YtodnlcbnbkkanaaGreatDoor
end
section
namespace Go.Proofs.YtodnlcbnbkkanaaGreatDoor
open Go Go.RowKit

theorem rowI_cell {W : World} {B : Nat} {S : List Int} (h : RowInt W (some ⟨B, 0, none⟩) S) {k : Nat} {v : Int} (hk : S[k]? = some v) : W.cell? ⟨B, k, none⟩ = some (.int .i64 v) ∧ B < W.heap.size := by
  obtain ⟨b, o, e, hb, hc, _⟩ := h k v hk
  simp only [Option.some.injEq, Addr.mk.injEq] at e
  obtain ⟨rfl, rfl, _⟩ := e
  have := Int_at hc
  rw [Nat.mul_one, Nat.zero_add] at this
  exact ⟨this, hb⟩
structure KnownA (G : Value) (w : World) : Prop where
  sh : ∀ W, Below w.heap.size w W → Calls Tryz.prog 28 #[G] W fun e w' => ∃ B c, e = .returned (.tuple #[.slice (some ⟨B, 0, none⟩) 3 c, .int .i64 0]) ∧ W.heap.size ≤ B ∧ (w'.cell? ⟨B, 0, none⟩ = some (.int .i64 1) ∧ w'.cell? ⟨B, 1, none⟩ = some (.int .i64 0) ∧ w'.cell? ⟨B, 2, none⟩ = some (.int .i64 (-1))) ∧ B < w'.heap.size ∧ Below W.heap.size W w'
  ci : ∀ W, Below w.heap.size w W → Calls Tryz.prog 16 #[G] W fun e w' => ∃ B, e = .returned (.tuple #[.slice (some ⟨B, 0, none⟩) 3 3, .int .i64 0]) ∧ W.heap.size ≤ B ∧ Blk w' B 4 #[.bool true, .bool false, .bool false] ∧ Below W.heap.size W w'
  nu : ∀ W, Below w.heap.size w W → Calls Tryz.prog 15 #[G] W fun e w' => ∃ B, e = .returned (.tuple #[.slice (some ⟨B, 0, none⟩) 3 3, .int .i64 0]) ∧ W.heap.size ≤ B ∧ Blk w' B 4 #[.bool false, .bool true, .bool false] ∧ Below W.heap.size W w'
  s0 : ∀ W, Below w.heap.size w W → Calls Tryz.prog 29 #[G, .int .i64 0] W fun e w' => e = .returned (.tuple #[.string ⟨#[120]⟩, .int .i64 0]) ∧ Below W.heap.size W w'
  s2 : ∀ W, Below w.heap.size w W → Calls Tryz.prog 29 #[G, .int .i64 2] W fun e w' => e = .returned (.tuple #[.string ⟨#[]⟩, .int .i64 161]) ∧ Below W.heap.size W w'
theorem knownA {w : World} {sa pa r0 r1 r3 r4 : Nat} (h : GSIn w sa pa r0 r1 r3 r4) (hT : TabAt 1 Lib.deBruijn64tab w) : KnownA (gramV (GSa sa pa r0 r1 r3 r4)) w := by
  have hf := GS_fit sa pa r0 r1 r3 r4
  have hck := GS_check (some ⟨sa, 0, none⟩) (some ⟨pa, 0, none⟩) (some ⟨r0, 0, none⟩) (some ⟨r1, 0, none⟩) (some ⟨r3, 0, none⟩) (some ⟨r4, 0, none⟩)
  have hck' : checkB (GSa sa pa r0 r1 r3 r4) = true := hck
  have hTW : ∀ W, Below w.heap.size w W → TabAt 1 Lib.deBruijn64tab W := fun W hW => KpG.tab (KpG.below hW (lt_of_cell (hT 0 (by decide)))) hT
  have hS : ∀ (k : Int), k = 0 ∨ k = 2 → ∀ S, ShortP (GSa sa pa r0 r1 r3 r4) S → gi S k ≤ (4096 : Nat) ∨ gi S k = 1048577 := fun k hk S h => by
    rw [GS_isS _ _ _ _ _ _ h]
    rcases hk with rfl | rfl
    · exact .inl (by decide)
    · exact .inl (by decide)
  refine ⟨fun W hW => ?_, fun W hW => ?_, fun W hW => ?_, fun W hW => ?_, fun W hW => ?_⟩
  · refine (Shortest_any _ hf W (h.below hW).inn).mono ?_
    rintro e w' ⟨hB, ⟨hc, _⟩ | ⟨_, S, B, c, hSh, rfl, hBl, hR⟩⟩
    · rw [hck'] at hc; cases hc
    · have e1 := GS_isS _ _ _ _ _ _ hSh
      rw [e1] at hR ⊢
      exact ⟨B, c, rfl, hBl, ⟨(rowI_cell hR (k := 0) rfl).1, (rowI_cell hR (k := 1) rfl).1, (rowI_cell hR (k := 2) rfl).1⟩, (rowI_cell hR (k := 0) rfl).2, hB⟩
  · refine (Circular_any _ hf W (h.below hW).inn).mono ?_
    rintro e w' ⟨hB, ⟨hc, _⟩ | ⟨_, M, B, hM, rfl, hBl, hR⟩⟩
    · rw [hck'] at hc; cases hc
    · have e1 := GS_circ _ _ _ _ _ _ hM
      rw [e1] at hR ⊢
      exact ⟨B, rfl, hBl, hR, hB⟩
  · refine (Nullable_any _ hf W (h.below hW).inn).mono ?_
    rintro e w' ⟨hB, ⟨hc, _⟩ | ⟨_, M, B, hM, rfl, hBl, hR⟩⟩
    · rw [hck'] at hc; cases hc
    · have e1 := GS_isN _ _ _ _ _ _ hM
      rw [e1] at hR ⊢
      exact ⟨B, rfl, hBl, hR, hB⟩
  · refine (Sample_any whole4096 _ hf 0 (by decide) (by decide) (hS 0 (.inl rfl)) W (h.below hW).inn (hTW W hW)).mono ?_
    rintro e w' ⟨hB, ⟨hc, _⟩ | ⟨_, ⟨hn, _⟩ | ⟨_, S, hSh, hh⟩⟩⟩
    · rw [hck'] at hc; cases hc
    · exact absurd hn (by rw [show numB 0 (GSa sa pa r0 r1 r3 r4).sorts.length = true from rfl]; decide)
    · rw [GS_isS _ _ _ _ _ _ hSh] at hh
      rcases hh with ⟨h1, _⟩ | ⟨h1, _⟩ | ⟨_, _, t, ht, rfl⟩
      · exact absurd h1 (by decide)
      · exact absurd h1 (by decide)
      · rw [GS_lt _ _ _ _ _ _ ht]
        exact ⟨rfl, hB⟩
  · refine (Sample_any whole4096 _ hf 2 (by decide) (by decide) (hS 2 (.inr rfl)) W (h.below hW).inn (hTW W hW)).mono ?_
    rintro e w' ⟨hB, ⟨hc, _⟩ | ⟨_, ⟨hn, _⟩ | ⟨_, S, hSh, hh⟩⟩⟩
    · rw [hck'] at hc; cases hc
    · exact absurd hn (by rw [show numB 2 (GSa sa pa r0 r1 r3 r4).sorts.length = true from rfl]; decide)
    · rw [GS_isS _ _ _ _ _ _ hSh] at hh
      rcases hh with ⟨_, rfl⟩ | ⟨h1, _⟩ | ⟨h1, _⟩
      · exact ⟨rfl, hB⟩
      · exact absurd h1 (by decide)
      · exact absurd h1 (by decide)

set_option maxRecDepth 100000 in
set_option maxHeartbeats 8000000 in
theorem works_any (w : World) (hT : TabAt 1 Lib.deBruijn64tab w) : Calls Tryz.prog 11 #[] w fun e w' => e = .returned (.bool true) ∧ Below w.heap.size w w' := by
  have HSm := Lib.hid (smp_any w)
  have HT := Lib.hid hT
  have HN := Lib.hid (fun n W => errno_any n W)
  clear hT
  go_enter Tryz.func11, Tryz.ntmps11
  go_wp2_with fail
  refine HSm.out.mono ?_
  rintro e w1 ⟨sa, pa, r0, r1, r3, r4, hIn, rfl, hB1⟩
  have HKA := Lib.hid (knownA hIn (KpG.tab (KpG.below hB1 (lt_of_cell (HT.out 0 (by decide)))) HT.out))
  have HB1 := Lib.hid hB1
  have HGE : Hid (gramV (GSa sa pa r0 r1 r3 r4) = .agg #[.slice (some ⟨sa, 0, none⟩) 3 3, .slice (some ⟨pa, 0, none⟩) 5 5, .int .i64 0, .slice none 0 0, .slice none 0 0]) := Lib.hid rfl
  rw [HGE.out] at HKA ⊢
  have hA : Below w1.heap.size w1 (w1.alloc (.cells #[.slice (some ⟨sa, 0, none⟩) 3 3, .slice (some ⟨pa, 0, none⟩) 5 5, .int .i64 0, .slice none 0 0, .slice none 0 0] 27)) := (Below.refl _ _).alloc (Nat.le_refl _) _
  have HG := Lib.hid (Blk.new w1 27 #[.slice (some ⟨sa, 0, none⟩) 3 3, .slice (some ⟨pa, 0, none⟩) 5 5, .int .i64 0, .slice none 0 0, .slice none 0 0])
  have HA := Lib.hid hA
  clear hB1 hIn hA HSm HGE
  go_wp2_with fail
  with_reducible refine (HKA.out.sh _ HA.out).mono ?_
  rintro e w2 ⟨B2, k2, rfl, hb2, hcs, hlt, hB⟩
  have HG2 := Lib.hid (HG.out.below hB HG.out.lt)
  have HA2 := Lib.hid (HA.out.trans (hB.mono HA.out.size))
  obtain ⟨c0, c1, c2, c3, c4⟩ := cells5s HG2.out
  have lg := HG2.out.lt
  have HS2 := Lib.hid (And.intro hcs hlt)
  clear hB HG HA hcs hlt hb2
  go_wp2_with fail
  with_reducible refine (HKA.out.ci _ HA2.out).mono ?_
  rintro e w3 ⟨B3, rfl, hb3, hk, hB⟩
  have HG3 := Lib.hid (HG2.out.below hB HG2.out.lt)
  have HA3 := Lib.hid (HA2.out.trans (hB.mono HA2.out.size))
  have HS3 : Hid ((w3.cell? ⟨B2, 0, none⟩ = some (.int .i64 1) ∧ w3.cell? ⟨B2, 1, none⟩ = some (.int .i64 0) ∧ w3.cell? ⟨B2, 2, none⟩ = some (.int .i64 (-1))) ∧ B2 < w3.heap.size) := Lib.hid ⟨⟨(hB.cell (p := ⟨B2, 0, none⟩) HS2.out.2).trans HS2.out.1.1, (hB.cell (p := ⟨B2, 1, none⟩) HS2.out.2).trans HS2.out.1.2.1, (hB.cell (p := ⟨B2, 2, none⟩) HS2.out.2).trans HS2.out.1.2.2⟩, Nat.lt_of_lt_of_le HS2.out.2 hB.size⟩
  have HC3 := Lib.hid hk
  obtain ⟨c0, c1, c2, c3, c4⟩ := cells5s HG3.out
  have lg := HG3.out.lt
  clear hB hk hb3 HG2 HA2 HS2
  go_wp2_with fail
  with_reducible refine (HKA.out.nu _ HA3.out).mono ?_
  rintro e w4 ⟨B4, rfl, hb4, hk, hB⟩
  have HG4 := Lib.hid (HG3.out.below hB HG3.out.lt)
  have HA4 := Lib.hid (HA3.out.trans (hB.mono HA3.out.size))
  have HS4 : Hid ((w4.cell? ⟨B2, 0, none⟩ = some (.int .i64 1) ∧ w4.cell? ⟨B2, 1, none⟩ = some (.int .i64 0) ∧ w4.cell? ⟨B2, 2, none⟩ = some (.int .i64 (-1))) ∧ B2 < w4.heap.size) := Lib.hid ⟨⟨(hB.cell (p := ⟨B2, 0, none⟩) HS3.out.2).trans HS3.out.1.1, (hB.cell (p := ⟨B2, 1, none⟩) HS3.out.2).trans HS3.out.1.2.1, (hB.cell (p := ⟨B2, 2, none⟩) HS3.out.2).trans HS3.out.1.2.2⟩, Nat.lt_of_lt_of_le HS3.out.2 hB.size⟩
  have HC4 := Lib.hid (HC3.out.below hB HC3.out.lt)
  have HN4 := Lib.hid hk
  obtain ⟨c0, c1, c2, c3, c4⟩ := cells5s HG4.out
  have lg := HG4.out.lt
  clear hB hk hb4 HG3 HA3 HS3 HC3
  go_wp2_with fail
  with_reducible refine (HKA.out.s0 _ HA4.out).mono ?_
  rintro e w5 ⟨rfl, hB⟩
  have HG5 := Lib.hid (HG4.out.below hB HG4.out.lt)
  have HA5 := Lib.hid (HA4.out.trans (hB.mono HA4.out.size))
  have HS5 : Hid ((w5.cell? ⟨B2, 0, none⟩ = some (.int .i64 1) ∧ w5.cell? ⟨B2, 1, none⟩ = some (.int .i64 0) ∧ w5.cell? ⟨B2, 2, none⟩ = some (.int .i64 (-1))) ∧ B2 < w5.heap.size) := Lib.hid ⟨⟨(hB.cell (p := ⟨B2, 0, none⟩) HS4.out.2).trans HS4.out.1.1, (hB.cell (p := ⟨B2, 1, none⟩) HS4.out.2).trans HS4.out.1.2.1, (hB.cell (p := ⟨B2, 2, none⟩) HS4.out.2).trans HS4.out.1.2.2⟩, Nat.lt_of_lt_of_le HS4.out.2 hB.size⟩
  have HC5 := Lib.hid (HC4.out.below hB HC4.out.lt)
  have HN5 := Lib.hid (HN4.out.below hB HN4.out.lt)
  obtain ⟨c0, c1, c2, c3, c4⟩ := cells5s HG5.out
  have lg := HG5.out.lt
  clear hB HG4 HA4 HS4 HC4 HN4
  go_wp2_with fail
  with_reducible refine (HKA.out.s2 _ HA5.out).mono ?_
  rintro e w6 ⟨rfl, hB⟩
  have HA6 := Lib.hid (HA5.out.trans (hB.mono HA5.out.size))
  obtain ⟨s0, s1, s2⟩ : w6.cell? ⟨B2, 0, none⟩ = some (.int .i64 1) ∧ w6.cell? ⟨B2, 1, none⟩ = some (.int .i64 0) ∧ w6.cell? ⟨B2, 2, none⟩ = some (.int .i64 (-1)) := ⟨(hB.cell (p := ⟨B2, 0, none⟩) HS5.out.2).trans HS5.out.1.1, (hB.cell (p := ⟨B2, 1, none⟩) HS5.out.2).trans HS5.out.1.2.1, (hB.cell (p := ⟨B2, 2, none⟩) HS5.out.2).trans HS5.out.1.2.2⟩
  have sl := Nat.lt_of_lt_of_le HS5.out.2 hB.size
  have hc6 := HC5.out.below hB HC5.out.lt
  have hn6 := HN5.out.below hB HN5.out.lt
  have i0 := hc6.cell 0
  have i1 := hc6.cell 1
  have i2 := hc6.cell 2
  have il := hc6.lt
  have n0 := hn6.cell 0
  have n1 := hn6.cell 1
  have n2 := hn6.cell 2
  have nl := hn6.lt
  simp only [List.getElem?_toArray, List.getElem?_cons_zero, List.getElem?_cons_succ] at i0 i1 i2 n0 n1 n2
  have HBe := Lib.hid (HB1.out.trans (HA6.out.mono HB1.out.size))
  clear hB hc6 hn6 HG5 HA5 HS5 HC5 HN5 HA6 HB1 c0 c1 c2 c3 c4 lg
  go_wp2_with (go_at_call 25; refine (HN.out _ _).mono ?_; rintro e wn ⟨rfl, rfl⟩)
  go_ret
  exact ⟨rfl, HBe.out⟩
end Go.Proofs.YtodnlcbnbkkanaaGreatDoor
end
section
namespace Go.Proofs.YtodnlcbnbkkanaaGreatDoor
open Go Go.RowKit

def vast8P (p : ProdM) : Bool := decide (31 < p.right.length) || decide (200 < p.cons.size)
def vast8 (g : GramM) : Bool := decide (40 < g.sorts.length) || (decide (80 < g.prods.length) || (decide (200 < g.forbid.length) || (decide (200 < g.follow.length) || g.prods.any vast8P)))

set_option maxRecDepth 100000 in
set_option maxHeartbeats 4000000 in
theorem vast8_big (g : GramM) (w : World) (h : 40 < g.sorts.length ∨ 80 < g.prods.length ∨ 200 < g.forbid.length ∨ 200 < g.follow.length) (m1 : g.sorts.length ≤ maxLen) (m2 : g.prods.length ≤ maxLen) (m3 : g.forbid.length ≤ maxLen) (m4 : g.follow.length ≤ maxLen) :
    Calls Tryz.prog 10 #[gramV g] w fun e w' => e = .returned (.bool (vast8 g)) ∧ Below w.heap.size w w' := by
  have HE : Hid (vast8 g = true) := Lib.hid (by unfold vast8; simp only [Bool.or_eq_true, decide_eq_true_eq]; rcases h with h | h | h | h <;> simp [h])
  unfold maxLen at m1 m2 m3 m4
  obtain ⟨q, hq⟩ : ∃ q, q = vast8 g := ⟨_, rfl⟩
  rw [← hq] at HE ⊢
  clear hq
  unfold gramV gramC at *
  generalize g.sorts.length = n1 at *
  generalize g.prods.length = n2 at *
  generalize g.forbid.length = n3 at *
  generalize g.follow.length = n4 at *
  by_cases h1 : 40 < n1
  · have g1 : (40 : Int) < (n1 : Int) := by omega
    go_enter Tryz.func10, Tryz.ntmps10
    go_wp2
    go_ret
    exact ⟨by rw [HE.out]; rfl, (Below.refl _ w).alloc (Nat.le_refl _) _⟩
  · have g1 : decide ((40 : Int) < (n1 : Int)) = false := by simp; omega
    by_cases h2 : 80 < n2
    · have g2 : (80 : Int) < (n2 : Int) := by omega
      clear h
      go_enter Tryz.func10, Tryz.ntmps10
      go_wp2
      go_ret
      exact ⟨by rw [HE.out]; rfl, (Below.refl _ w).alloc (Nat.le_refl _) _⟩
    · have g2 : decide ((80 : Int) < (n2 : Int)) = false := by simp; omega
      by_cases h3 : 200 < n3
      · have g3 : (200 : Int) < (n3 : Int) := by omega
        clear h
        go_enter Tryz.func10, Tryz.ntmps10
        go_wp2
        go_ret
        exact ⟨by rw [HE.out]; rfl, (Below.refl _ w).alloc (Nat.le_refl _) _⟩
      · have g3 : decide ((200 : Int) < (n3 : Int)) = false := by simp; omega
        have g4 : (200 : Int) < (n4 : Int) := by omega
        clear h
        go_enter Tryz.func10, Tryz.ntmps10
        go_wp2
        go_ret
        exact ⟨by rw [HE.out]; rfl, (Below.refl _ w).alloc (Nat.le_refl _) _⟩
set_option maxRecDepth 100000 in
set_option maxHeartbeats 4000000 in
theorem vast8_small (g : GramM) (w : World) (hg : GIn w g) (h1 : g.sorts.length ≤ 40) (h2 : g.prods.length ≤ 80) (h3 : g.forbid.length ≤ 200) (h4 : g.follow.length ≤ 200) (hp : ∀ p, p ∈ g.prods → p.right.length ≤ maxLen ∧ p.cons.size ≤ maxLen) :
    Calls Tryz.prog 10 #[gramV g] w fun e w' => e = .returned (.bool (vast8 g)) ∧ Below w.heap.size w w' := by
  have HP := Lib.hid hg.prods
  have HE : Hid (vast8 g = g.prods.any vast8P) := Lib.hid (by
    unfold vast8
    rw [decide_eq_false (by omega : ¬ 40 < g.sorts.length), decide_eq_false (by omega : ¬ 80 < g.prods.length), decide_eq_false (by omega : ¬ 200 < g.forbid.length), decide_eq_false (by omega : ¬ 200 < g.follow.length)]
    simp)
  obtain ⟨q, hq⟩ : ∃ q, q = vast8 g := ⟨_, rfl⟩
  rw [← hq] at HE ⊢
  have HQ := Lib.hid hp
  clear hq hg hp
  unfold gramV gramC at *
  obtain ⟨n1, hn1⟩ : ∃ n, n = g.sorts.length := ⟨_, rfl⟩
  obtain ⟨n2, hn2⟩ : ∃ n, n = g.prods.length := ⟨_, rfl⟩
  rw [← hn1] at h1 ⊢
  rw [← hn2] at h2 ⊢
  generalize g.forbid.length = n3 at *
  generalize g.follow.length = n4 at *
  have HN1 := Lib.hid hn1
  have HN2 := Lib.hid hn2
  have g1 : decide ((40 : Int) < (n1 : Int)) = false := by simp; omega
  have g2 : decide ((80 : Int) < (n2 : Int)) = false := by simp; omega
  have g3 : decide ((200 : Int) < (n3 : Int)) = false := by simp; omega
  have g4 : decide ((200 : Int) < (n4 : Int)) = false := by simp; omega
  clear hn1 hn2
  go_enter Tryz.func10, Tryz.ntmps10
  go_wp2
  go_loop [3] (fun i => ∃ k : Nat, i = .int .i64 k ∧ k ≤ n2 ∧ Hid (∀ (j : Nat) (x : ProdM), j < k → g.prods[j]? = some x → vast8P x = false)) (fun i => n2 - (intOf i).toNat)
  case atStart => exact ⟨0, rfl, Nat.zero_le _, Lib.hid (fun j x hj => by omega)⟩
  case round =>
    obtain ⟨k, rfl, hk, hS⟩ := hrel
    by_cases hlt : k < n2
    · obtain ⟨x, hx⟩ : ∃ x, g.prods[k]? = some x := ⟨_, List.getElem?_eq_getElem (by rw [← HN2.out]; exact hlt)⟩
      obtain ⟨b1, o1, e1, hb1, hc1, _⟩ := HP.out k x hx
      obtain ⟨hz1, hz2⟩ := HQ.out x (List.mem_of_getElem? hx)
      obtain ⟨c10, c11, c12, _, _, _, _⟩ := Prod_at hc1
      have E1 := Lib.hid e1
      clear hc1 e1
      have f1 : (k : Int) < (n2 : Int) := by omega
      unfold maxLen at hz1 hz2
      rw [E1.out]
      have HV : Hid (vast8P x = (decide (31 < x.right.length) || decide (200 < x.cons.size))) := Lib.hid rfl
      have HQ2 : Hid (vast8P x = true → q = true) := Lib.hid (fun h => by rw [HE.out, any_yes hx h])
      have HX := Lib.hid hx
      clear hx
      generalize x.right.length = m at *
      by_cases hb : 31 < m
      · have HE3 : Hid (q = true) := Lib.hid (HQ2.out (by rw [HV.out]; simp [hb]))
        have f2 : (31 : Int) < (m : Int) := by omega
        clear HP HQ hS E1 HX HV HQ2 HE
        go_wp2
        go_ret
        exact ⟨by rw [HE3.out]; rfl, (Below.refl _ w).alloc (Nat.le_refl _) _⟩
      · have f2 : decide ((31 : Int) < (m : Int)) = false := by simp; omega
        by_cases hb2 : 200 < x.cons.size
        · have HE3 : Hid (q = true) := Lib.hid (HQ2.out (by rw [HV.out]; simp [hb2]))
          have f3 : (200 : Int) < (x.cons.size : Int) := by omega
          clear HP HQ hS E1 HX HV HQ2 HE
          go_wp2
          go_ret
          exact ⟨by rw [HE3.out]; rfl, (Below.refl _ w).alloc (Nat.le_refl _) _⟩
        · have HE3 : Hid (vast8P x = false) := Lib.hid (by rw [HV.out, decide_eq_false hb, decide_eq_false hb2]; rfl)
          have f3 : decide ((200 : Int) < (x.cons.size : Int)) = false := by simp; omega
          clear HV HQ2
          go_wp2
          go_round
          case rel => exact ⟨k + 1, by go_num, by omega, Lib.hid (fun j y hj hy => by
            by_cases e : j = k
            · subst e; rw [HX.out] at hy; cases hy; exact HE3.out
            · exact hS.out j y (by omega) hy)⟩
          case measure => simp [intOf]; omega
    · obtain rfl : k = n2 := by omega
      have HE3 : Hid (q = false) := Lib.hid (by
        rw [HE.out]
        exact any_no (fun i x hx => hS.out i x (by have := (List.getElem?_eq_some_iff.1 hx).1; have := HN2.out; omega) hx))
      clear hS HP HE
      go_wp2
      go_ret
      exact ⟨by rw [HE3.out]; rfl, (Below.refl _ w).alloc (Nat.le_refl _) _⟩
theorem AGram.fit8 {w : World} {g : GramM} (h : AGram w g) (hv : vast8 g = false) : FitG g := by
  unfold vast8 at hv
  simp only [Bool.or_eq_false_iff, decide_eq_false_iff_not, List.any_eq_false] at hv
  obtain ⟨h1, h2, h3, h4, h6⟩ := hv
  refine ⟨⟨by omega, by omega, fun x hx => ?_, by omega, by omega, fun f hf => (h.forb f hf).at_, fun s hs => ?_⟩, h.forb, h.fol⟩
  · have := h6 x hx
    unfold vast8P at this
    simp at this
    omega
  · have := h.names s hs
    unfold maxLen at this
    omega
theorem vast8_any (g : GramM) (w : World) (h : AGram w g) : Calls Tryz.prog 10 #[gramV g] w fun e w' => e = .returned (.bool (vast8 g)) ∧ Below w.heap.size w w' := by
  by_cases hb : 40 < g.sorts.length ∨ 80 < g.prods.length ∨ 200 < g.forbid.length ∨ 200 < g.follow.length
  · exact vast8_big g w hb (Nat.le_trans h.sl h.sc) (Nat.le_trans h.pl h.pc) (Nat.le_trans h.fl h.fc) (Nat.le_trans h.wl h.wc)
  · exact vast8_small g w h.inn (by omega) (by omega) (by omega) (by omega) (fun p hp => ⟨Nat.le_trans (h.prods p hp).len (h.prods p hp).cap, (h.prods p hp).cons⟩)
end Go.Proofs.YtodnlcbnbkkanaaGreatDoor
end
section
namespace Go.Proofs.YtodnlcbnbkkanaaGreatDoor
open Go Go.RowKit

theorem AProd.below {w W : World} {p : ProdM} (h : AProd w p) (hB : Below w.heap.size w W) : AProd W p := ⟨h.inn.below hB, h.left, h.role, h.frm, h.cons, h.syms, h.len, h.cap, h.nil⟩
theorem AGram.below {w W : World} {g : GramM} (h : AGram w g) (hB : Below w.heap.size w W) : AGram W g :=
  ⟨h.inn.below hB, h.start, h.names, fun p hp => (h.prods p hp).below hB, h.forb, h.fol, h.sl, h.sc, h.sn, h.pl, h.pc, h.pn, h.fl, h.fc, h.fn, h.wl, h.wc, h.wn⟩
theorem tab_below {w W : World} (h : TabAt 1 Lib.deBruijn64tab w) (hB : Below w.heap.size w W) : TabAt 1 Lib.deBruijn64tab W := KpG.tab (KpG.below hB (lt_of_cell (h 0 (by decide)))) h
end Go.Proofs.YtodnlcbnbkkanaaGreatDoor
end
section
namespace Go.Proofs.YtodnlcbnbkkanaaGreatDoor
open Go Go.RowKit

def yieldL : Nat → TreeM → List Int
  | 0, _ => []
  | d + 1, .node p b _ _ kids => if p < 0 then [b] else kids.flatMap (yieldL d)
def byteC (b : Int) : Array Value := #[.int .u8 b]
theorem Tryz.info5 : (Tryz.prog.info? 5).map (fun i => (i.zero, i.size, i.bytes)) = some (some (.int .u8 0), 1, 1) := by kernel_rfl

set_option maxRecDepth 100000 in
set_option maxHeartbeats 2000000 in
theorem appendYield_any (w0 : World) (d : Nat) : ∀ (t : TreeM) (w : World) (v : Value) (L : List Int), TreeIn w0 t → TFit d t → nestB d t = true → Below w0.heap.size w0 w → w.ownsRow w0.heap.size 5 1 v L.length (cellsL byteC L) → L.length + (yieldL d t).length ≤ 1099511627776 →
    Calls Tryz.prog 65 #[v, treeV t] w fun e w' => ∃ v', e = .returned v' ∧ w'.ownsRow w0.heap.size 5 1 v' (L ++ yieldL d t).length (cellsL byteC (L ++ yieldL d t)) ∧ Below w0.heap.size w0 w' := by
  obtain ⟨i5, hi, hz0, hz1, hz2⟩ := info_parts Tryz.info5
  induction d with
  | zero => intro t w v L _ _ h; unfold nestB at h; cases h
  | succ d ih =>
  intro t w v L ht hfit hnest hB hown hlen
  obtain ⟨p, b, ka, kc, kids⟩ := t
  rw [tree_in] at ht
  obtain ⟨hkl, ⟨n, rfl, hn⟩, hkf⟩ := hfit
  have HNe := Lib.hid (List.all_eq_true.1 (show kids.all (nestB d) = true from hnest))
  have HKf := Lib.hid hkf
  have HIh := Lib.hid ih
  have HTr := Lib.hid ht
  have hb1 := Blk.new w 70 #[.int .i64 p, .int .u8 (n : Nat), .slice ka kids.length kc]
  have hBw : Below w.heap.size w (w.alloc (.cells #[.int .i64 p, .int .u8 (n : Nat), .slice ka kids.length kc] 70)) := (Below.refl _ _).alloc (Nat.le_refl _) _
  have hs0 := hB.size
  have hB1 := hB.trans (hBw.mono hs0)
  have hown1 := own_below hown hBw (Nat.le_refl _)
  by_cases hp : p < 0
  · have HY : Hid (yieldL (d + 1) (.node p (n : Int) ka kc kids) = [(n : Int)]) := Lib.hid (by rw [yieldL, if_pos hp])
    rw [HY.out] at hlen ⊢
    simp only [List.length_singleton] at hlen
    have hB2 : Below w.heap.size w ((w.alloc (.cells #[.int .i64 p, .int .u8 (n : Nat), .slice ka kids.length kc] 70)).alloc (.cells #[.int .u8 (n : Nat)] 5)) := hBw.alloc (by simp) _
    have hown2 := own_below hown hB2 (Nat.le_refl _)
    have HO2 := Lib.hid hown2
    have HB2 := Lib.hid (hB.trans (hB2.mono hs0))
    have HCN := cells_new (w.alloc (.cells #[.int .i64 p, .int .u8 (n : Nat), .slice ka kids.length kc] 70)) #[.int .u8 (n : Nat)] 5
    rw [World.size_alloc] at HCN
    have HCN := Lib.hid HCN
    clear ht hkf hnest ih hb1 hBw hB1 hown hown1 hown2 hB2 hB HNe HKf HIh HTr
    unfold treeV treeC
    go_enter Tryz.func65, Tryz.ntmps65
    go_wp2_with (at_builtin; refine wpList_append_own _ rfl (.tmp 10) (.tmp 13) 57 rfl w0.heap.size 5 i5 _ 1 1 Tryz.underlying57 hi hz0 hz1 hz2 rfl (by decide) _ _ _ rfl HO2.out ⟨w.heap.size + 1, 0, none⟩ 1 1 [.int .u8 (n : Nat)] rfl rfl HCN.out (by simp [Value.oneCell']) (by unfold maxLen; omega) (by omega) (by simp; omega) ?_; intro v5 w5 hown5 hgrow5 _)
    have hf5 := own_fin HO2.out HB2.out (Nat.le_refl _) hgrow5
    go_ret
    exact ⟨v5, rfl, by rw [cellsL_snoc]; exact hown5, hf5⟩
  · have HY : Hid (yieldL (d + 1) (.node p (n : Int) ka kc kids) = kids.flatMap (yieldL d)) := Lib.hid (by rw [yieldL, if_neg hp])
    rw [HY.out] at hlen ⊢
    have HLe := Lib.hid hlen
    obtain ⟨W1, hW1⟩ : ∃ W, W = w.alloc (.cells #[.int .i64 p, .int .u8 (n : Nat), .slice ka kids.length kc] 70) := ⟨_, rfl⟩
    rw [← hW1] at hb1 hB1 hown1
    have a0 := hb1.cell 0
    have a2 := hb1.cell 2
    simp only [List.getElem?_toArray, List.getElem?_cons_zero, List.getElem?_cons_succ] at a0 a2
    have l1 := hb1.lt
    have HB1 := Lib.hid hB1
    have HO1 : Hid (W1.ownsRow w0.heap.size 5 1 v (L ++ (kids.take 0).flatMap (yieldL d)).length (cellsL byteC (L ++ (kids.take 0).flatMap (yieldL d)))) := Lib.hid (by simpa using hown1)
    have HW1 := Lib.hid hW1
    clear ht hkf hnest ih hb1 hBw hB1 hown hown1 hB hlen hW1
    unfold treeV treeC
    go_enter Tryz.func65, Tryz.ntmps65
    go_wp2_with fail
    rw [← HW1.out]
    go_wp2
    go_loopw [0, 18] (fun u i wr => ∃ k : Nat, i = .int .i64 k ∧ k ≤ kids.length ∧ Hid (wr.ownsRow w0.heap.size 5 1 u (L ++ (kids.take k).flatMap (yieldL d)).length (cellsL byteC (L ++ (kids.take k).flatMap (yieldL d)))) ∧ Hid (Below w0.heap.size w0 wr))
      (fun _ i _ => kids.length - (intOf i).toNat)
    case atStart => exact ⟨0, rfl, Nat.zero_le _, HO1, HB1⟩
    case round =>
      clear HO1 HB1 a0 a2 l1 HW1
      obtain ⟨k, rfl, hk, hO, hB⟩ := hrel
      by_cases hlt : k < kids.length
      · obtain ⟨kd, hkd⟩ : ∃ y, kids[k]? = some y := ⟨_, List.getElem?_eq_getElem hlt⟩
        have hkm := List.mem_of_getElem? hkd
        have HTk : Hid (L ++ (kids.take (k + 1)).flatMap (yieldL d) = (L ++ (kids.take k).flatMap (yieldL d)) ++ yieldL d kd) := Lib.hid (by rw [take_snoc _ k _ hkd, List.flatMap_append, List.append_assoc]; simp)
        have hle : (L ++ (kids.take k).flatMap (yieldL d)).length + (yieldL d kd).length ≤ 1099511627776 := by
          have h1 := HLe.out
          have h2 : (kids.flatMap (yieldL d)).length = ((kids.take (k + 1)).flatMap (yieldL d)).length + ((kids.drop (k + 1)).flatMap (yieldL d)).length := by
            rw [← List.length_append, ← List.flatMap_append, List.take_append_drop]
          have h3 := congrArg List.length HTk.out
          rw [List.length_append, List.length_append (bs := yieldL d kd)] at h3
          omega
        obtain ⟨kb, ko, rfl, hkb, hkc, hki⟩ := HTr.out k kd hkd
        obtain ⟨W2, hW2⟩ : ∃ W, W = wr.alloc (.cells (treeC kd) 70) := ⟨_, rfl⟩
        have hB2w : Below wr.heap.size wr W2 := by rw [hW2]; exact (Below.refl _ _).alloc (Nat.le_refl _) _
        have HC := Lib.hid (HIh.out kd W2 u0 (L ++ (kids.take k).flatMap (yieldL d)) hki (HKf.out kd hkm) (HNe.out kd hkm) (hB.out.trans (hB2w.mono hB.out.size)) (own_below hO.out hB2w (Nat.le_refl _)) hle)
        have HW2 := Lib.hid hW2
        rw [← HTk.out] at HC
        have hcell := hkc.below hB.out hkb
        have lkb := Nat.lt_of_lt_of_le hkb hB.out.size
        clear hkd hkc hki hO hle hW2 hB2w
        obtain ⟨tp, tb, ta, tc, tk⟩ := kd
        obtain ⟨t0, t1, t2⟩ := Tree_at hcell
        unfold treeV treeC at HC
        unfold treeC at HW2
        have k1 : (k : Int) < (kids.length : Int) := by omega
        clear hcell
        go_wp2_with fail
        rw [← HW2.out]
        with_reducible refine HC.out.mono ?_
        rintro e w5 ⟨v5, rfl, hO5, hB5⟩
        have HO5 := Lib.hid hO5
        have HB5 := Lib.hid hB5
        clear hO5 hB5
        go_wp2
        go_roundw
        case rel => exact ⟨k + 1, by go_num, by omega, HO5, HB5⟩
        case measure => simp [intOf]; omega
      · obtain rfl : k = kids.length := by omega
        have hO2 := hO.out
        rw [List.take_length] at hO2
        go_wp2
        go_ret
        exact ⟨_, rfl, hO2, hB.out⟩
end Go.Proofs.YtodnlcbnbkkanaaGreatDoor
end
section
namespace Go.Proofs.YtodnlcbnbkkanaaGreatDoor
open Go Go.RowKit

theorem cellsB (L : List Int) : cellsL byteC L = L.map fun b => Value.int .u8 b := by
  unfold cellsL byteC
  induction L with
  | nil => rfl
  | cons x r ih => rw [List.flatMap_cons, ih]; rfl
theorem conv_nil (w : World) : (convert 57 9 (.slice none 0 0)).run Tryz.prog w = .ok (.string (strOfNums [])) w := by kernel_rfl
theorem conv_any {n₀ : Nat} (v : Value) (w : World) (L : List Int) (ho : w.ownsRow n₀ 5 1 v L.length (cellsL byteC L)) :
    (convert 57 9 v).run Tryz.prog w = .ok (.string (strOfNums L)) w := by
  have ho' := ho
  rcases ho.2 with ⟨rfl, h0⟩ | ⟨g, cap, cur, rfl, _⟩
  · have : L = [] := List.length_eq_zero_iff.1 h0
    subst this
    exact conv_nil w
  · refine run_convert_bytes_arg w 57 5 Tryz.underlying57 Tryz.underlying5 g 0 L.length cap L rfl ?_ 9 Tryz.underlying9
    intro i hi
    rw [Nat.zero_add, ho'.cellAt i (by omega), cellsB]
    simp [List.getD, hi]

set_option maxRecDepth 100000 in
set_option maxHeartbeats 2000000 in
theorem yield_any (t : TreeM) (w : World) (ht : TreeIn w t) (hfit : TFit 16384 t) (hlen : (yieldL 16384 t).length ≤ 1099511627776) :
    Calls Tryz.prog 36 #[treeV t] w fun e w' => e = .returned (if nestB 16384 t then .tuple #[.string (strOfNums (yieldL 16384 t)), .int .i64 0] else .tuple #[.string ⟨#[]⟩, .int .i64 3]) ∧ Below w.heap.size w w' := by
  obtain ⟨W1, hW1⟩ : ∃ W, W = w.alloc (.cells (treeC t) 70) := ⟨_, rfl⟩
  have hB1 : Below w.heap.size w W1 := by rw [hW1]; exact (Below.refl _ _).alloc (Nat.le_refl _) _
  have hb := Blk.new w 70 (treeC t)
  rw [← hW1] at hb
  have HB := Lib.hid hB1
  have HN := Lib.hid (nested_any 16384 (by omega) t W1 (TreeIn.below hB1 t ht) hfit)
  rw [show ((16384 : Nat) : Int) = 16384 from rfl] at HN
  have HY := Lib.hid (fun (h : nestB 16384 t = true) W (hW : Below W1.heap.size W1 W) => appendYield_any W 16384 t W (.slice none 0 0) [] (TreeIn.below (hB1.trans (hW.mono hB1.size)) t ht) hfit h (Below.refl _ _) (World.ownsRow_nil _ _ _ _) (by simpa using hlen))
  have HW := Lib.hid hW1
  have Hb := Lib.hid hb
  clear ht hfit hlen hB1 hb hW1
  generalize yieldL 16384 t = Y at *
  cases hq : nestB 16384 t with
  | false =>
    rw [hq] at HN
    clear HY hq
    obtain ⟨p, b, ka, kc, kids⟩ := t
    unfold treeV treeC at *
    go_enter Tryz.func36, Tryz.ntmps36
    go_wp2_with fail
    rw [← HW.out]
    with_reducible refine HN.out.mono ?_
    rintro e w3 ⟨rfl, hB3⟩
    have HF := Lib.hid (HB.out.trans (hB3.mono HB.out.size))
    clear hB3
    go_wp2
    go_ret2
    exact ⟨rfl, HF.out⟩
  | true =>
    rw [hq] at HN
    have HY := Lib.hid (HY.out hq)
    clear hq
    obtain ⟨p, b, ka, kc, kids⟩ := t
    unfold treeV treeC at *
    go_enter Tryz.func36, Tryz.ntmps36
    go_wp2_with fail
    rw [← HW.out]
    with_reducible refine HN.out.mono ?_
    rintro e w3 ⟨rfl, hB3⟩
    have HB3 := Lib.hid (HB.out.trans (hB3.mono HB.out.size))
    have HY3 := Lib.hid (HY.out w3 hB3)
    have c := (Hb.out.below hB3 Hb.out.lt)
    have c0 := c.cell 0
    have c1 := c.cell 1
    have c2 := c.cell 2
    simp only [List.getElem?_toArray, List.getElem?_cons_zero, List.getElem?_cons_succ] at c0 c1 c2
    have l3 := c.lt
    clear hB3 HY c
    rw [List.nil_append] at HY3
    go_wp2_with fail
    with_reducible refine HY3.out.mono ?_
    rintro e w4 ⟨v, rfl, hO, hB4⟩
    have HCv := conv_any v w4 Y hO
    have HB4 := Lib.hid (HB3.out.trans (hB4.mono HB3.out.size))
    clear hO hB4
    go_wp2
    go_ret2
    exact ⟨rfl, HB4.out⟩
end Go.Proofs.YtodnlcbnbkkanaaGreatDoor
end
section
namespace Go.Proofs.YtodnlcbnbkkanaaGreatDoor
open Go Go.RowKit

def tot : Nat → TreeM → Nat
  | 0, _ => 0
  | d + 1, .node _ _ _ _ kids => 1 + (kids.map (tot d)).sum
theorem nest_mono (d : Nat) : ∀ (t : TreeM), nestB d t = true → ∀ e, d ≤ e → nestB e t = true := by
  induction d with
  | zero => intro t h; cases h
  | succ d ih =>
    rintro ⟨p, b, ka, kc, kids⟩ h e he
    obtain ⟨e, rfl⟩ : ∃ e', e = e' + 1 := ⟨e - 1, by omega⟩
    rw [nestB, List.all_eq_true] at h ⊢
    exact fun k hk => ih k (h k hk) e (by omega)
theorem map_sum_congr {α : Type} {f g : α → Nat} {l : List α} (h : ∀ x, x ∈ l → f x = g x) : (l.map f).sum = (l.map g).sum := by
  rw [List.map_congr_left h]
theorem tot_mono (d : Nat) : ∀ (t : TreeM), nestB d t = true → ∀ e, d ≤ e → tot e t = tot d t := by
  induction d with
  | zero => intro t h; cases h
  | succ d ih =>
    rintro ⟨p, b, ka, kc, kids⟩ h e he
    obtain ⟨e, rfl⟩ : ∃ e', e = e' + 1 := ⟨e - 1, by omega⟩
    rw [nestB, List.all_eq_true] at h
    rw [tot, tot, map_sum_congr (fun k hk => ih k (h k hk) e (by omega))]
theorem sum_mem {α : Type} (f : α → Nat) : ∀ (l : List α) (x : α), x ∈ l → f x ≤ (l.map f).sum := by
  intro l
  induction l with
  | nil => intro x h; simp at h
  | cons y r ih =>
    intro x h
    rw [List.map_cons, List.sum_cons]
    rcases List.mem_cons.1 h with rfl | h
    · omega
    · have := ih x h; omega
theorem sum_len {α : Type} (f : α → Nat) : ∀ (l : List α), (∀ x, x ∈ l → 1 ≤ f x) → l.length ≤ (l.map f).sum := by
  intro l
  induction l with
  | nil => intro _; simp
  | cons y r ih =>
    intro h
    rw [List.map_cons, List.sum_cons, List.length_cons]
    have := ih (fun x hx => h x (by simp [hx]))
    have := h y (by simp)
    omega
theorem tot_pos (d : Nat) (t : TreeM) (h : nestB d t = true) : 1 ≤ tot d t := by
  cases d with
  | zero => cases h
  | succ d => obtain ⟨p, b, ka, kc, kids⟩ := t; rw [tot]; omega
theorem tot_fit {w : World} (m : Nat) : ∀ (t : TreeM), nestB m t = true → tot m t ≤ 5000 → (∀ d, ATree w d t) → ∀ d, TFit d t := by
  induction m with
  | zero => intro t h; cases h
  | succ m ih =>
    rintro ⟨p, b, ka, kc, kids⟩ h ht ha d
    rw [nestB, List.all_eq_true] at h
    rw [tot] at ht
    cases d with
    | zero => trivial
    | succ d =>
      have hl := sum_len (tot m) kids (fun k hk => tot_pos m k (h k hk))
      obtain ⟨_, hb, _⟩ := ha 1
      refine ⟨by omega, ⟨b.toNat, by omega, by omega⟩, fun k hk => ?_⟩
      have hs := sum_mem (tot m) kids k hk
      exact ih k (h k hk) (by omega) (fun e => (ha (e + 1)).2.2.2.2.2 k hk) d
theorem flat_len {α β : Type} (f : α → List β) (g : α → Nat) : ∀ (l : List α), (∀ x, x ∈ l → (f x).length ≤ g x) → (l.flatMap f).length ≤ (l.map g).sum := by
  intro l
  induction l with
  | nil => intro _; simp
  | cons y r ih =>
    intro h
    rw [List.flatMap_cons, List.length_append, List.map_cons, List.sum_cons]
    have := ih (fun x hx => h x (by simp [hx]))
    have := h y (by simp)
    omega
theorem yield_len (m : Nat) : ∀ (t : TreeM), nestB m t = true → ∀ d, m ≤ d → (yieldL d t).length ≤ tot m t := by
  induction m with
  | zero => intro t h; cases h
  | succ m ih =>
    rintro ⟨p, b, ka, kc, kids⟩ h d hd
    obtain ⟨d, rfl⟩ : ∃ e', d = e' + 1 := ⟨d - 1, by omega⟩
    rw [nestB, List.all_eq_true] at h
    rw [yieldL, tot]
    split
    · simp
    · have := flat_len (yieldL d) (tot m) kids (fun k hk => ih k (h k hk) d (by omega))
      omega

theorem cells3t {W : World} {B t : Nat} {a b c : Value} (h : Blk W B t #[a, b, c]) : W.cell? ⟨B, 0, none⟩ = some a ∧ W.cell? ⟨B, 1, none⟩ = some b ∧ W.cell? ⟨B, 2, none⟩ = some c := ⟨h.cell 0, h.cell 1, h.cell 2⟩
end Go.Proofs.YtodnlcbnbkkanaaGreatDoor
end
section
namespace Go.Proofs.YtodnlcbnbkkanaaGreatDoor
open Go Go.RowKit

def part_ (m : Nat) (l : List TreeM) : Nat := (l.map (tot m)).sum
theorem part_snoc (m : Nat) (l : List TreeM) (k : Nat) (x : TreeM) (h : l[k]? = some x) : part_ m (l.take (k + 1)) = part_ m (l.take k) + tot m x := by
  unfold part_
  rw [take_snoc l k x h, List.map_append, List.sum_append]; simp

def SizeP (m : Nat) (t : TreeM) (w : World) (e : Ending) (w' : World) : Prop := ∃ r : Nat, e = .returned (.int .i64 r) ∧ 1 ≤ r ∧ r ≤ m + 1 ∧ (r ≤ m → nestB m t = true ∧ r = tot m t) ∧ Below w.heap.size w w'
end Go.Proofs.YtodnlcbnbkkanaaGreatDoor
end
section
namespace Go.Proofs.YtodnlcbnbkkanaaGreatDoor
open Go Go.RowKit

set_option maxRecDepth 100000 in
set_option maxHeartbeats 2000000 in
theorem size_any (m : Nat) : m ≤ 5000 → ∀ (t : TreeM) (w : World), TreeIn w t → Calls Tryz.prog 34 #[treeV t, .int .i64 m] w (SizeP m t w) := by
  induction m using Nat.strongRecOn with
  | _ m ih =>
    intro hm t w ht
    have HI := Lib.hid ih
    obtain ⟨p, b, ka, kc, kids⟩ := t
    rw [tree_in] at ht
    have HT := Lib.hid ht
    have HB0 : Hid (Below w.heap.size w (w.alloc (.cells #[.int .i64 p, .int .u8 b, .slice ka kids.length kc] 70))) := Lib.hid ((Below.refl _ _).alloc (Nat.le_refl _) _)
    have Hb0 := Lib.hid (Blk.new w 70 #[.int .i64 p, .int .u8 b, .slice ka kids.length kc])
    obtain ⟨n, hn⟩ : ∃ n : Nat, n = kids.length := ⟨_, rfl⟩
    have HL := Lib.hid hn
    rw [← hn] at HB0 Hb0
    clear ht ih
    unfold treeV treeC
    dsimp only
    rw [← hn]
    clear hn
    have HP : Hid (∀ (e : Ending) (w' : World) (r : Nat), e = .returned (.int .i64 r) → 1 ≤ r → r ≤ m + 1 → (r ≤ m → nestB m (.node p b ka kc kids) = true ∧ r = tot m (.node p b ka kc kids)) → Below w.heap.size w w' → SizeP m (.node p b ka kc kids) w e w') := Lib.hid fun e w' r h1 h2 h3 h4 h5 => ⟨r, h1, h2, h3, h4, h5⟩
    generalize SizeP m (.node p b ka kc kids) w = PP at *
    go_enter Tryz.func34, Tryz.ntmps34
    go_wp2
    go_loopw [5, 6] (fun s i wr => ∃ k N : Nat, i = .int .i64 k ∧ s = .int .i64 N ∧ k ≤ n ∧ k + 1 ≤ N ∧ N ≤ m + 1 ∧ Hid (N ≤ m → N = 1 + part_ (m - 1) (kids.take k) ∧ ∀ (i : Nat) (x : TreeM), i < k → kids[i]? = some x → nestB (m - 1) x = true) ∧ Hid (Blk wr w.heap.size 70 #[.int .i64 p, .int .u8 b, .slice ka n kc]) ∧ Hid (Below w.heap.size w wr)) (fun _ i _ => n - (intOf i).toNat)
    case atStart => exact ⟨0, 1, rfl, rfl, Nat.zero_le _, by omega, by omega, Lib.hid (fun _ => ⟨rfl, fun i x hi => by omega⟩), Hb0, HB0⟩
    case round =>
      clear Hb0 HB0
      obtain ⟨k, N, rfl, rfl, hk, hkN, hNm, hS, hb, hB⟩ := hrel
      obtain ⟨c0, c1, c2⟩ := cells3t hb.out
      have l0 := hb.out.lt
      by_cases hlt : k < n
      · by_cases hN : N ≤ m
        · obtain ⟨x, hx⟩ : ∃ x, kids[k]? = some x := ⟨_, List.getElem?_eq_getElem (by rw [← HL.out]; exact hlt)⟩
          obtain ⟨b1, o1, e1, hb1, hc1, hi1⟩ := HT.out k x hx
          have HC := Lib.hid (HI.out (m - N) (by omega) (by omega) x wr (TreeIn.below hB.out x hi1))
          have hb1' := Nat.lt_of_lt_of_le hb1 hB.out.size
          have z1 : (k : Int) < (n : Int) := by omega
          have z0 : (0 : Int) ≤ (k : Int) := by omega
          have z2 : (N : Int) ≤ (m : Int) := by omega
          have z3 : (m : Int) ≤ 5000 := by omega
          have z4 : (m : Int) - (N : Int) = ((m - N : Nat) : Int) := by omega
          have Z4 := Lib.hid z4
          have hcx := hc1.below hB.out hb1
          have hS' := hS.out hN
          have HST : Hid (∀ r : Nat, (r ≤ m - N → nestB (m - N) x = true ∧ r = tot (m - N) x) → N + r ≤ m → N + r = 1 + part_ (m - 1) (kids.take (k + 1)) ∧ ∀ (i : Nat) (x : TreeM), i < k + 1 → kids[i]? = some x → nestB (m - 1) x = true) := Lib.hid fun r hr hle => by
            obtain ⟨q1, q2⟩ := hr (by omega)
            have q3 := nest_mono _ x q1 (m - 1) (by omega)
            have q4 := tot_mono _ x q1 (m - 1) (by omega)
            refine ⟨by rw [part_snoc _ _ _ _ hx, q4, ← q2]; have := hS'.1; omega, fun i y hi hy => ?_⟩
            by_cases e : i = k
            · subst e; rw [hx] at hy; cases hy; exact q3
            · exact hS'.2 i y (by omega) hy
          clear hx hc1 hi1 hS hS' z4
          obtain ⟨xp, xb, xa, xc, xk⟩ := x
          obtain ⟨x0, x1, x2⟩ := Tree_at hcx
          unfold treeV treeC at HC
          rw [e1] at c2
          clear hcx e1
          go_wp2_with fail
          rw [Z4.out]
          with_reducible refine HC.out.mono ?_
          rintro e w3 ⟨r, rfl, hr1, hr2, hr3, hB3⟩
          have HB3 := Lib.hid (hB.out.trans (hB3.mono hB.out.size))
          have Hb3 := Lib.hid (hb.out.below hB3 hb.out.lt)
          have HR3 := Lib.hid (HST.out r hr3)
          clear hB3 c0 c1 c2 x0 x1 x2 hr3 HST
          go_wp2
          go_roundw
          case rel => exact ⟨k + 1, N + r, by go_num, by go_num, by omega, by omega, by omega, HR3, Hb3, HB3⟩
          case measure => simp [intOf]; omega
        · have z1 : (k : Int) < (n : Int) := by omega
          have z2 : decide ((N : Int) ≤ (m : Int)) = false := by simp; omega
          clear hS
          go_wp2
          exact HP.out _ _ N rfl (by omega) (by omega) (fun h => absurd h hN) hB.out
      · obtain rfl : k = n := by omega
        have HF : Hid (N ≤ m → nestB m (.node p b ka kc kids) = true ∧ N = tot m (.node p b ka kc kids)) := Lib.hid fun h => by
          obtain ⟨q1, q2⟩ := hS.out h
          obtain ⟨m, rfl⟩ : ∃ m', m = m' + 1 := ⟨m - 1, by omega⟩
          rw [HL.out, List.take_length, Nat.add_sub_cancel] at q1
          refine ⟨?_, by rw [tot, q1]; rfl⟩
          rw [nestB, List.all_eq_true]
          intro y hy
          obtain ⟨i, hi⟩ := List.mem_iff_getElem?.1 hy
          exact q2 i y (by have := (List.getElem?_eq_some_iff.1 hi).1; have := HL.out; omega) hi
        clear hS
        go_wp2
        exact HP.out _ _ N rfl (by omega) (by omega) HF.out hB.out
end Go.Proofs.YtodnlcbnbkkanaaGreatDoor
end
section
namespace Go.Proofs.YtodnlcbnbkkanaaGreatDoor
open Go Go.RowKit

theorem index47_0 (a b c d : Value) (w : World) : (Instr.index 47 (.agg #[a, b, c, d]) (.int .i64 0)).run Tryz.prog w = .ok a w := by kernel_rfl
theorem index47_1 (a b c d : Value) (w : World) : (Instr.index 47 (.agg #[a, b, c, d]) (.int .i64 1)).run Tryz.prog w = .ok b w := by kernel_rfl
theorem index47_2 (a b c d : Value) (w : World) : (Instr.index 47 (.agg #[a, b, c, d]) (.int .i64 2)).run Tryz.prog w = .ok c w := by kernel_rfl
theorem index47_3 (a b c d : Value) (w : World) : (Instr.index 47 (.agg #[a, b, c, d]) (.int .i64 3)).run Tryz.prog w = .ok d w := by kernel_rfl
def SetAt (cs : Array Value) (off : Nat) (s : BS) : Prop := CsAt cs off (cset s)
theorem set_cell {cs : Array Value} {off : Nat} {s : BS} (h : SetAt cs off s) {j : Nat} (hj : j < 4) : cs[off + j]? = some (.int .u64 (wdI s j)) := by
  refine h j _ ?_
  have : j = 0 ∨ j = 1 ∨ j = 2 ∨ j = 3 := by omega
  rcases this with rfl | rfl | rfl | rfl <;> rfl
theorem setAt_of {cs : Array Value} {off : Nat} {s : BS} (h : ∀ j, j < 4 → cs[off + j]? = some (.int .u64 (wdI s j))) : SetAt cs off s := fun j v hj => by
  have hl : j < 4 := by
    have := (Array.getElem?_eq_some_iff.1 hj).1
    simpa [cset] using this
  rw [h j hl, ← hj]
  have : j = 0 ∨ j = 1 ∨ j = 2 ∨ j = 3 := by omega
  rcases this with rfl | rfl | rfl | rfl <;> rfl
structure GrowI (w : World) (B t off : Nat) (cs : Array Value) (s m : BS) (i : Nat) (W : World) : Prop where
  ex : ∃ ds, Blk W B t ds ∧ ds.size = cs.size ∧ (∀ k, k < off ∨ off + 4 ≤ k → ds[k]? = cs[k]?) ∧ ∀ j, j < 4 → ds[off + j]? = some (.int .u64 (wdI (if j < i then s ||| m else s) j))
  old : Blk W (w.heap.size + 1) 47 (cset s)
  g : w.grownBy W (some B)
  hi : w.heap.size + 2 ≤ W.heap.size
theorem GrowI.step {w : World} {B t off : Nat} {cs : Array Value} {s m : BS} {i : Nat} {W : World} (h : GrowI w B t off cs s m i W) (hi : i < 4) (hB : B < w.heap.size) : GrowI w B t off cs s m (i + 1) (W.setCell ⟨B, off + i, none⟩ (.int .u64 (wdI (s ||| m) i))) := by
  obtain ⟨ds, h1, h2, h3, h4⟩ := h.ex
  refine ⟨⟨_, h1.set (off + i) (.int .u64 (wdI (s ||| m) i)), by rw [Array.size_setIfInBounds]; exact h2, fun k hk => by rw [Array.getElem?_setIfInBounds_ne (by omega)]; exact h3 k hk, fun j hj => ?_⟩, h.old.other (by show w.heap.size + 1 ≠ B; omega) _, grown_trans h.g (grown_set W B _ _), by rw [World.size_setCell]; exact h.hi⟩
  by_cases e : j = i
  · subst e
    have hl := (Array.getElem?_eq_some_iff.1 (h4 j hj)).1
    rw [Array.getElem?_setIfInBounds_self_of_lt hl, if_pos (by omega)]
  · rw [Array.getElem?_setIfInBounds_ne (by omega), h4 j hj]
    by_cases e2 : j < i
    · rw [if_pos e2, if_pos (by omega)]
    · rw [if_neg e2, if_neg (by omega)]
theorem grown_below {w W : World} (hb : Below w.heap.size w W) (row : Option Nat) : w.grownBy W row := ⟨hb.os, hb.tape, hb.output, hb.size, fun j hj _ => hb.block j hj⟩
theorem GrowI.drew {w : World} {B t off : Nat} {cs : Array Value} {s m : BS} {i : Nat} {W : World} (h : GrowI w B t off cs s m i W) : GrowI w B t off cs s m i W.drew := ⟨h.ex, h.old, grown_trans h.g (grown_below (Below.refl W.heap.size W).drew _), h.hi⟩
def GrowPost (w : World) (B t off : Nat) (cs : Array Value) (s m : BS) (e : Ending) (w' : World) : Prop := e = .returned (.bool (!(s ||| m == s))) ∧ w.grownBy w' (some B) ∧ ∃ ds, Blk w' B t ds ∧ ds.size = cs.size ∧ (∀ k, k < off ∨ off + 4 ≤ k → ds[k]? = cs[k]?) ∧ SetAt ds off (s ||| m)

set_option maxRecDepth 100000 in
set_option maxHeartbeats 4000000 in
theorem grow_any (B t off : Nat) (cs : Array Value) (s m : BS) (w : World) (hB : Blk w B t cs) (hs : SetAt cs off s) : Calls Tryz.prog 105 #[.pointer (some ⟨B, off, none⟩), vset m] w (GrowPost w B t off cs s m) := by
  have hBl := hB.lt
  have HI0 : Hid (GrowI w B t off cs s m 0 ((w.alloc (.cells (cset m) 47)).alloc (.cells (cset s) 47))) := Lib.hid (by
    have h2 := Blk.new (w.alloc (.cells (cset m) 47)) 47 (cset s)
    rw [World.size_alloc] at h2
    exact ⟨⟨cs, (hB.alloc _).alloc _, rfl, fun _ _ => rfl, fun j hj => by rw [if_neg (by omega)]; exact set_cell hs hj⟩, h2, grown_trans (World.grownBy_alloc w _ _) (World.grownBy_alloc _ _ _), by simp⟩)
  have b0 := (hB.cell (off + 0)).trans (set_cell hs (j := 0) (by decide))
  have b1 := (hB.cell (off + 1)).trans (set_cell hs (j := 1) (by decide))
  have b2 := (hB.cell (off + 2)).trans (set_cell hs (j := 2) (by decide))
  have b3 := (hB.cell (off + 3)).trans (set_cell hs (j := 3) (by decide))
  rw [Nat.add_zero] at b0
  have HOr : Hid (∀ j, bits .or .u64 (wdI s j) (wdI m j) = wdI (s ||| m) j) := Lib.hid (fun j => wdI_or s m j)
  clear hB hs
  unfold vset
  unfold cset at HI0
  go_enter Tryz.func105, Tryz.ntmps105
  go_wp2
  go_loopw [12] (fun vi wr => ∃ i : Nat, vi = .int .i64 i ∧ i ≤ 4 ∧ Hid (GrowI w B t off cs s m i wr)) (fun vi _ => 4 - (intOf vi).toNat)
  case atStart => exact ⟨0, rfl, Nat.zero_le _, HI0⟩
  case round =>
    clear HI0 b0 b1 b2 b3
    obtain ⟨i, rfl, hi, K⟩ := hrel
    obtain ⟨ds, h1, h2, h3, h4⟩ := K.out.ex
    have lB := h1.lt
    by_cases hlt : i < 4
    · have HZ := Lib.hid (K.out.step hlt hBl)
      have ho := HOr.out i
      have c0 := (h1.cell (off + i)).trans (h4 i hlt)
      rw [if_neg (Nat.lt_irrefl i)] at c0
      have f0 := h1.frozen (off + i)
      clear h1 h2 h3 h4 K
      have hcase : i = 0 ∨ i = 1 ∨ i = 2 ∨ i = 3 := by omega
      rcases hcase with rfl | rfl | rfl | rfl
      · have hx := fun W => index47_0 (.int .u64 (wdI m 0)) (.int .u64 (wdI m 1)) (.int .u64 (wdI m 2)) (.int .u64 (wdI m 3)) W
        have HZ' := HZ.out
        rw [Nat.add_zero] at HZ' c0 f0
        have HZ := Lib.hid HZ'
        clear HZ'
        go_wp2
        go_region
        all_goals (
          go_wp2
          go_roundw
          case rel => exact ⟨1, by go_num, by omega, Lib.hid HZ.out.drew⟩
          case measure => simp [intOf] <;> omega)
      · have hx := fun W => index47_1 (.int .u64 (wdI m 0)) (.int .u64 (wdI m 1)) (.int .u64 (wdI m 2)) (.int .u64 (wdI m 3)) W
        go_wp2
        go_region
        all_goals (
          go_wp2
          go_roundw
          case rel => exact ⟨2, by go_num, by omega, Lib.hid HZ.out.drew⟩
          case measure => simp [intOf] <;> omega)
      · have hx := fun W => index47_2 (.int .u64 (wdI m 0)) (.int .u64 (wdI m 1)) (.int .u64 (wdI m 2)) (.int .u64 (wdI m 3)) W
        go_wp2
        go_region
        all_goals (
          go_wp2
          go_roundw
          case rel => exact ⟨3, by go_num, by omega, Lib.hid HZ.out.drew⟩
          case measure => simp [intOf] <;> omega)
      · have hx := fun W => index47_3 (.int .u64 (wdI m 0)) (.int .u64 (wdI m 1)) (.int .u64 (wdI m 2)) (.int .u64 (wdI m 3)) W
        go_wp2
        go_region
        all_goals (
          go_wp2
          go_roundw
          case rel => exact ⟨4, by go_num, by omega, Lib.hid HZ.out.drew⟩
          case measure => simp [intOf] <;> omega)
    · obtain rfl : i = 4 := by omega
      have d0 := K.out.old.cell 0
      have d1 := K.out.old.cell 1
      have d2 := K.out.old.cell 2
      have d3 := K.out.old.cell 3
      unfold cset at d0 d1 d2 d3
      simp only [List.getElem?_toArray, List.getElem?_cons_zero, List.getElem?_cons_succ] at d0 d1 d2 d3
      have dl := K.out.old.lt
      have b0 := (h1.cell (off + 0)).trans (h4 0 (by decide))
      have b1 := (h1.cell (off + 1)).trans (h4 1 (by decide))
      have b2 := (h1.cell (off + 2)).trans (h4 2 (by decide))
      have b3 := (h1.cell (off + 3)).trans (h4 3 (by decide))
      rw [if_pos (by decide)] at b0 b1 b2 b3
      rw [Nat.add_zero] at b0
      have HE := eq_sets (s ||| m) s
      have HZ : Hid (∀ k, GrowPost w B t off cs s m (.returned (.bool (!(s ||| m == s)))) (wr.drewN k)) := Lib.hid (fun k => by
        have hb := below_drewN (Below.refl wr.heap.size wr) k
        exact ⟨rfl, grown_trans K.out.g (grown_below hb _), ds, h1.below hb lB, h2, h3, setAt_of fun j hj => by rw [h4 j hj, if_pos hj]⟩)
      clear h1 h2 h3 h4 K HOr
      go_wp2
      go_region
      all_goals (
        go_wp2
        go_ret
        first | exact HZ.out 1 | exact HZ.out 2)
end Go.Proofs.YtodnlcbnbkkanaaGreatDoor
end
section
namespace Go.Proofs.YtodnlcbnbkkanaaGreatDoor
open Go Go.RowKit

def setsC (L : List BS) : Array Value := (cellsL cset L).toArray
theorem setsC_size (L : List BS) : (setsC L).size = L.length * 4 := by unfold setsC; rw [List.size_toArray]; exact cellsL_length (cs := cset) (fun _ => rfl) L
theorem setsC_at {L : List BS} {k : Nat} {s : BS} (h : L[k]? = some s) : SetAt (setsC L) (k * 4) s := fun j v hj => by
  have hl : j < 4 := by
    have := (Array.getElem?_eq_some_iff.1 hj).1
    simpa [cset] using this
  unfold setsC
  rw [List.getElem?_toArray, cellsL_at (cs := cset) (k := 4) (fun _ => rfl) L k s h j hl]
  exact hj
theorem cells4q {W : World} {B t : Nat} {u0 u1 u2 u3 : Value} (h : Blk W B t #[u0, u1, u2, u3]) : W.cell? ⟨B, 0, none⟩ = some u0 ∧ W.cell? ⟨B, 1, none⟩ = some u1 ∧ W.cell? ⟨B, 2, none⟩ = some u2 ∧ W.cell? ⟨B, 3, none⟩ = some u3 := ⟨h.cell 0, h.cell 1, h.cell 2, h.cell 3⟩
theorem cells6q {W : World} {B t : Nat} {u0 u1 u2 u3 u4 u5 : Value} (h : Blk W B t #[u0, u1, u2, u3, u4, u5]) : W.cell? ⟨B, 0, none⟩ = some u0 ∧ W.cell? ⟨B, 1, none⟩ = some u1 ∧ W.cell? ⟨B, 2, none⟩ = some u2 ∧ W.cell? ⟨B, 3, none⟩ = some u3 ∧ W.cell? ⟨B, 4, none⟩ = some u4 ∧ W.cell? ⟨B, 5, none⟩ = some u5 :=
  ⟨h.cell 0, h.cell 1, h.cell 2, h.cell 3, h.cell 4, h.cell 5⟩
def symF (L : List BS) (s : SymM) : BS := if s.kind = 0 then s.set else L.getD s.sort.toNat 0#256
def symE (M : List Bool) (s : SymM) : Bool := if s.kind = 0 then false else lv M s.sort

set_option maxRecDepth 100000 in
set_option maxHeartbeats 4000000 in
theorem bof_any (L : List BS) (M : List Bool) (Bb Be n : Nat) (s : SymM) (w : World) (hb : Blk w Bb 47 (setsC L)) (he : Blk w Be 4 (bools M)) (hL : L.length = n) (hM : M.length = n) (hn : n ≤ 1000) (hk : s.kind = 0 ∨ s.kind = 1) (hs : s.kind = 1 → ∃ k : Nat, s.sort = k ∧ k < n) :
    Calls Tryz.prog 104 #[.agg #[.slice (some ⟨Bb, 0, none⟩) n n, .slice (some ⟨Be, 0, none⟩) n n], symV s] w fun e w' => e = .returned (.tuple #[vset (symF L s), .bool (symE M s)]) ∧ Below w.heap.size w w' := by
  have lb := hb.lt
  have le := he.lt
  rcases hk with hk | hk
  · have e1 : symF L s = s.set := by unfold symF; rw [if_pos hk]
    have e2 : symE M s = false := by unfold symE; rw [if_pos hk]
    rw [e1, e2]
    obtain ⟨sk, ss, so⟩ := s
    dsimp only at *
    subst hk
    unfold symV symC vset
    have hbk := Blk.new ((w.alloc (.cells #[.slice (some ⟨Bb, 0, none⟩) n n, .slice (some ⟨Be, 0, none⟩) n n] 118)).alloc (.cells #[.int .i64 0, .int .u64 (wdI ss 0), .int .u64 (wdI ss 1), .int .u64 (wdI ss 2), .int .u64 (wdI ss 3), .int .i64 so] 60)) 47 (cset ss)
    rw [World.size_alloc, World.size_alloc] at hbk
    unfold cset at hbk
    have q0 := hbk.cell 0
    have q1 := hbk.cell 1
    have q2 := hbk.cell 2
    have q3 := hbk.cell 3
    simp only [List.getElem?_toArray, List.getElem?_cons_zero, List.getElem?_cons_succ] at q0 q1 q2 q3
    have HB : Hid (Below w.heap.size w (((w.alloc (.cells #[.slice (some ⟨Bb, 0, none⟩) n n, .slice (some ⟨Be, 0, none⟩) n n] 118)).alloc (.cells #[.int .i64 0, .int .u64 (wdI ss 0), .int .u64 (wdI ss 1), .int .u64 (wdI ss 2), .int .u64 (wdI ss 3), .int .i64 so] 60)).alloc (.cells #[.int .u64 (wdI ss 0), .int .u64 (wdI ss 1), .int .u64 (wdI ss 2), .int .u64 (wdI ss 3)] 47))) := Lib.hid ((((Below.refl _ _).alloc (Nat.le_refl _) _).alloc (by simp) _).alloc (by simp; omega) _)
    clear hbk e1 e2 hb he hs
    go_enter Tryz.func104, Tryz.ntmps104
    go_wp2
    refine bodyPost_ret (v := .tuple #[.agg #[.int .u64 (wdI ss 0), .int .u64 (wdI ss 1), .int .u64 (wdI ss 2), .int .u64 (wdI ss 3)], .bool false]) (by simp [results, Tryz.results104, go_sem, q0, q1, q2, q3]) rfl ⟨rfl, ?_⟩
    exact HB.out
  · obtain ⟨k, hso, hkn⟩ := hs hk
    obtain ⟨t, ht⟩ : ∃ t, L[k]? = some t := ⟨_, List.getElem?_eq_getElem (by omega)⟩
    have e1 : symF L s = t := by unfold symF; rw [if_neg (by omega), hso, Int.toNat_natCast, List.getD_eq_getElem?_getD, ht]; rfl
    obtain ⟨v, hv⟩ : ∃ v, v = lv M (k : Int) := ⟨_, rfl⟩
    have e2 : symE M s = v := by unfold symE; rw [if_neg (by omega), hso, ← hv]
    rw [e1, e2]
    have hS := setsC_at ht
    have c0 := (hb.cell (k * 4 + 0)).trans (set_cell hS (j := 0) (by decide))
    have c1 := (hb.cell (k * 4 + 1)).trans (set_cell hS (j := 1) (by decide))
    have c2 := (hb.cell (k * 4 + 2)).trans (set_cell hS (j := 2) (by decide))
    have c3 := (hb.cell (k * 4 + 3)).trans (set_cell hS (j := 3) (by decide))
    rw [Nat.add_zero] at c0
    have cm := he.cell k
    rw [bools_at _ _ (by omega), ← hv] at cm
    obtain ⟨sk, ss, so⟩ := s
    dsimp only at *
    subst hk hso
    have z1 : (k : Int) < (n : Int) := by omega
    have z0 : (0 : Int) ≤ (k : Int) := by omega
    unfold symV symC vset
    have hB3 : Below w.heap.size w (((w.alloc (.cells #[.slice (some ⟨Bb, 0, none⟩) n n, .slice (some ⟨Be, 0, none⟩) n n] 118)).alloc (.cells #[.int .i64 1, .int .u64 (wdI ss 0), .int .u64 (wdI ss 1), .int .u64 (wdI ss 2), .int .u64 (wdI ss 3), .int .i64 (k : Int)] 60)).alloc (.cells #[.int .u64 0, .int .u64 0, .int .u64 0, .int .u64 0] 47)) := (((Below.refl _ _).alloc (Nat.le_refl _) _).alloc (by simp) _).alloc (by simp; omega) _
    have hk1 := ((Blk.new w 118 #[.slice (some ⟨Bb, 0, none⟩) n n, .slice (some ⟨Be, 0, none⟩) n n]).alloc (.cells #[.int .i64 1, .int .u64 (wdI ss 0), .int .u64 (wdI ss 1), .int .u64 (wdI ss 2), .int .u64 (wdI ss 3), .int .i64 (k : Int)] 60)).alloc (.cells #[.int .u64 0, .int .u64 0, .int .u64 0, .int .u64 0] 47)
    have hk2 := (Blk.new (w.alloc (.cells #[.slice (some ⟨Bb, 0, none⟩) n n, .slice (some ⟨Be, 0, none⟩) n n] 118)) 60 #[.int .i64 1, .int .u64 (wdI ss 0), .int .u64 (wdI ss 1), .int .u64 (wdI ss 2), .int .u64 (wdI ss 3), .int .i64 (k : Int)]).alloc (.cells #[.int .u64 0, .int .u64 0, .int .u64 0, .int .u64 0] 47)
    have hk3 := Blk.new ((w.alloc (.cells #[.slice (some ⟨Bb, 0, none⟩) n n, .slice (some ⟨Be, 0, none⟩) n n] 118)).alloc (.cells #[.int .i64 1, .int .u64 (wdI ss 0), .int .u64 (wdI ss 1), .int .u64 (wdI ss 2), .int .u64 (wdI ss 3), .int .i64 (k : Int)] 60)) 47 #[.int .u64 0, .int .u64 0, .int .u64 0, .int .u64 0]
    rw [World.size_alloc] at hk2
    rw [World.size_alloc, World.size_alloc] at hk3
    obtain ⟨W, hW⟩ : ∃ W, W = ((w.alloc (.cells #[.slice (some ⟨Bb, 0, none⟩) n n, .slice (some ⟨Be, 0, none⟩) n n] 118)).alloc (.cells #[.int .i64 1, .int .u64 (wdI ss 0), .int .u64 (wdI ss 1), .int .u64 (wdI ss 2), .int .u64 (wdI ss 3), .int .i64 (k : Int)] 60)).alloc (.cells #[.int .u64 0, .int .u64 0, .int .u64 0, .int .u64 0] 47) := ⟨_, rfl⟩
    have HW := Lib.hid hW
    rw [← hW] at hB3 hk1 hk2 hk3
    have c0 := (hB3.cell (p := ⟨Bb, k * 4, none⟩) lb).trans c0
    have c1 := (hB3.cell (p := ⟨Bb, k * 4 + 1, none⟩) lb).trans c1
    have c2 := (hB3.cell (p := ⟨Bb, k * 4 + 2, none⟩) lb).trans c2
    have c3 := (hB3.cell (p := ⟨Bb, k * 4 + 3, none⟩) lb).trans c3
    have cm := (hB3.cell (p := ⟨Be, k, none⟩) le).trans cm
    have lb := Nat.lt_of_lt_of_le lb hB3.size
    have le := Nat.lt_of_lt_of_le le hB3.size
    have a0 := hk1.cell 0
    have a1 := hk1.cell 1
    have al := hk1.lt
    obtain ⟨s0, s1, s2, s3, s4, s5⟩ := cells6q hk2
    have sl := hk2.lt
    obtain ⟨r0, r1, r2, r3⟩ := cells4q hk3
    have f0 := hk3.frozen 0
    have f1 := hk3.frozen 1
    have f2 := hk3.frozen 2
    have f3 := hk3.frozen 3
    have rl := hk3.lt
    simp only [List.getElem?_toArray, List.getElem?_cons_zero, List.getElem?_cons_succ] at a0 a1
    have hend : Blk (((((W.setCell ⟨w.heap.size + 1 + 1, 0, none⟩ (.int .u64 (wdI t 0))).setCell ⟨w.heap.size + 1 + 1, 1, none⟩ (.int .u64 (wdI t 1))).setCell ⟨w.heap.size + 1 + 1, 2, none⟩ (.int .u64 (wdI t 2))).setCell ⟨w.heap.size + 1 + 1, 3, none⟩ (.int .u64 (wdI t 3))).drew) (w.heap.size + 1 + 1) 47 #[.int .u64 (wdI t 0), .int .u64 (wdI t 1), .int .u64 (wdI t 2), .int .u64 (wdI t 3)] := ((((hk3.set 0 (.int .u64 (wdI t 0))).set 1 (.int .u64 (wdI t 1))).set 2 (.int .u64 (wdI t 2))).set 3 (.int .u64 (wdI t 3))).drew
    have hlow : w.heap.size ≤ w.heap.size + 1 + 1 := by omega
    have HEnd : Hid (Below w.heap.size w (((((W.setCell ⟨w.heap.size + 1 + 1, 0, none⟩ (.int .u64 (wdI t 0))).setCell ⟨w.heap.size + 1 + 1, 1, none⟩ (.int .u64 (wdI t 1))).setCell ⟨w.heap.size + 1 + 1, 2, none⟩ (.int .u64 (wdI t 2))).setCell ⟨w.heap.size + 1 + 1, 3, none⟩ (.int .u64 (wdI t 3))).drew) ∧ Blk (((((W.setCell ⟨w.heap.size + 1 + 1, 0, none⟩ (.int .u64 (wdI t 0))).setCell ⟨w.heap.size + 1 + 1, 1, none⟩ (.int .u64 (wdI t 1))).setCell ⟨w.heap.size + 1 + 1, 2, none⟩ (.int .u64 (wdI t 2))).setCell ⟨w.heap.size + 1 + 1, 3, none⟩ (.int .u64 (wdI t 3))).drew) (w.heap.size + 1 + 1) 47 #[.int .u64 (wdI t 0), .int .u64 (wdI t 1), .int .u64 (wdI t 2), .int .u64 (wdI t 3)]) := Lib.hid ⟨((((hB3.setCell (p := ⟨w.heap.size + 1 + 1, 0, none⟩) hlow _).setCell (p := ⟨w.heap.size + 1 + 1, 1, none⟩) hlow _).setCell (p := ⟨w.heap.size + 1 + 1, 2, none⟩) hlow _).setCell (p := ⟨w.heap.size + 1 + 1, 3, none⟩) hlow _).drew, hend⟩
    clear e1 e2 hb he hv ht hS hL hM hkn hk1 hk2 hk3 hW hend
    go_enter Tryz.func104, Tryz.ntmps104
    go_upto_region 3 with fail
    rw [← HW.out]
    go_wp2
    go_region
    all_goals (
      go_wp2
      obtain ⟨V, hV⟩ : ∃ V, V = ((((W.setCell ⟨w.heap.size + 1 + 1, 0, none⟩ (.int .u64 (wdI t 0))).setCell ⟨w.heap.size + 1 + 1, 1, none⟩ (.int .u64 (wdI t 1))).setCell ⟨w.heap.size + 1 + 1, 2, none⟩ (.int .u64 (wdI t 2))).setCell ⟨w.heap.size + 1 + 1, 3, none⟩ (.int .u64 (wdI t 3))).drew := ⟨_, rfl⟩
      rw [← hV] at HEnd ⊢
      obtain ⟨q0, q1, q2, q3⟩ := cells4q HEnd.out.2
      clear hV
      refine bodyPost_ret (v := .tuple #[.agg #[.int .u64 (wdI t 0), .int .u64 (wdI t 1), .int .u64 (wdI t 2), .int .u64 (wdI t 3)], .bool v]) (by simp [results, Tryz.results104, go_sem, q0, q1, q2, q3]) rfl ⟨rfl, ?_⟩
      exact HEnd.out.1)
end Go.Proofs.YtodnlcbnbkkanaaGreatDoor
end
section
namespace Go.Proofs.YtodnlcbnbkkanaaGreatDoor
open Go Go.RowKit

def cntZ (s : BS) : Nat := (List.range 256).countP fun b => !s.getLsbD b
theorem countP_less {p q : Nat → Bool} {c : Nat} : ∀ {l : List Nat}, c ∈ l → p c = true → q c = false → (∀ x, q x = true → p x = true) → l.countP q < l.countP p := by
  intro l
  induction l with
  | nil => intro h; cases h
  | cons y r ih =>
    intro h hp hq hi
    rw [List.countP_cons, List.countP_cons]
    have hmono : r.countP q ≤ r.countP p := List.countP_mono_left fun x _ hx => hi x hx
    rcases List.mem_cons.1 h with rfl | h
    · rw [hp, hq]; simp; omega
    · have := ih h hp hq hi
      by_cases hy : q y = true
      · rw [hy, hi y hy]; simp; omega
      · have : q y = false := by simpa using hy
        rw [this]; simp; split <;> omega
theorem or_bit {s m : BS} (h : s ||| m ≠ s) : ∃ b, b < 256 ∧ m.getLsbD b = true ∧ s.getLsbD b = false := by
  apply Classical.byContradiction
  intro hn
  refine h (BitVec.eq_of_getLsbD_eq fun i hi => ?_)
  rw [BitVec.getLsbD_or]
  cases hs : s.getLsbD i with
  | true => rfl
  | false =>
    cases hm : m.getLsbD i with
    | false => rfl
    | true => exact absurd ⟨i, hi, hm, hs⟩ hn
theorem cntZ_or {s m : BS} (h : s ||| m ≠ s) : cntZ (s ||| m) < cntZ s := by
  obtain ⟨b, hb, h1, h2⟩ := or_bit h
  refine countP_less (c := b) (List.mem_range.2 hb) (by rw [h2]; rfl) (by rw [BitVec.getLsbD_or, h1]; simp) fun x hx => ?_
  rw [BitVec.getLsbD_or] at hx
  simp only [Bool.not_or, Bool.and_eq_true] at hx
  exact hx.1
def sizeZ (L : List BS) : Nat := (L.map cntZ).foldr (· + ·) 0
theorem sizeZ_cons (s : BS) (L : List BS) : sizeZ (s :: L) = cntZ s + sizeZ L := rfl
theorem sizeZ_set : ∀ {L : List BS} {k : Nat} {s t : BS}, L[k]? = some s → cntZ t < cntZ s → sizeZ (L.set k t) < sizeZ L := by
  intro L
  induction L with
  | nil => intro k s t h; simp at h
  | cons a r ih =>
    intro k s t h hl
    cases k with
    | zero => simp at h; subst h; rw [List.set_cons_zero, sizeZ_cons, sizeZ_cons]; omega
    | succ k =>
      rw [List.set_cons_succ, sizeZ_cons, sizeZ_cons]
      have := ih (k := k) (by simpa using h) hl
      omega
theorem sub_bit {s m : BS} (h : s ||| m = s) {b : Nat} (hb : m.getLsbD b = true) : s.getLsbD b = true := by
  rw [← h, BitVec.getLsbD_or, hb, Bool.or_true]

def FirstP (g : GramM) (F : List BS) : Prop := F.length = g.sorts.length ∧ ∀ (k : Nat) (s : BS), F[k]? = some s → ∀ b : UInt8, s.getLsbD b.toNat = true ↔ ∃ t, TX g k (b :: t)
def SoundF (g : GramM) (F : List BS) : Prop := ∀ (k : Nat) (s : BS), F[k]? = some s → ∀ b : UInt8, s.getLsbD b.toNat = true → ∃ t, TX g k (b :: t)
theorem SoundF.none (g : GramM) : SoundF g (List.replicate g.sorts.length 0#256) := fun k s hk b hb => by
  rw [List.getElem?_replicate] at hk
  split at hk
  · cases hk; simp at hb
  · cases hk
def AheadE (M : List Bool) (l : List SymM) (i : Nat) : Prop := ∀ (j : Nat) (s : SymM), j < i → l[j]? = some s → symE M s = true
def QuietF (M : List Bool) (x : ProdM) (F : List BS) : Prop := ∀ (i : Nat) (s : SymM), x.right[i]? = some s → AheadE M x.right i → F.getD x.left.toNat 0#256 ||| symF F s = F.getD x.left.toNat 0#256
theorem symF_text {g : GramM} {F : List BS} (hF : SoundF g F) {s : SymM} (hk : s.kind = 0 ∨ s.kind = 1) {b : UInt8} (hb : (symF F s).getLsbD b.toNat = true) : ∃ t, SymT (TX g) s (b :: t) := by
  unfold symF at hb
  by_cases h0 : s.kind = 0
  · rw [if_pos h0] at hb
    exact ⟨[], .inr ⟨by omega, b, rfl, hb⟩⟩
  · rw [if_neg h0] at hb
    rw [List.getD_eq_getElem?_getD] at hb
    cases e : F[s.sort.toNat]? with
    | none => rw [e] at hb; simp at hb
    | some t =>
      rw [e] at hb
      obtain ⟨u, hu⟩ := hF _ t e b hb
      exact ⟨u, .inl ⟨by omega, hu⟩⟩
theorem symE_text {g : GramM} {M : List Bool} (hM : NullP g M) {s : SymM} (hk : s.kind = 0 ∨ s.kind = 1) (h : symE M s = true) : SymT (TX g) s [] := by
  unfold symE at h
  by_cases h0 : s.kind = 0
  · rw [if_pos h0] at h; cases h
  · rw [if_neg h0] at h
    exact .inl ⟨by omega, (hM.2 _).1 (by
      unfold lv at h
      rw [List.getD_eq_getElem?_getD] at h
      cases e : M[s.sort.toNat]? with
      | none => rw [e] at h; simp at h
      | some v => rw [e] at h; simp at h; rw [h])⟩
theorem SoundF.step {g : GramM} (hm : MayB g) {M L : List Bool} (hM : NullP g M) (hL : Live g L) (hs : MaySet g) {F : List BS} (hF : SoundF g F) {x : ProdM} (hx : x ∈ livL g L) {i : Nat} {s : SymM} (hi : x.right[i]? = some s) (ha : AheadE M x.right i) : SoundF g (F.set x.left.toNat (F.getD x.left.toNat 0#256 ||| symF F s)) := by
  obtain ⟨hxm, hr, hlv⟩ := livL_mem.1 hx
  intro k t hk b hb
  rw [List.getElem?_set] at hk
  split at hk
  · next e =>
    split at hk
    · next hlt =>
      cases hk
      subst e
      rw [BitVec.getLsbD_or, Bool.or_eq_true] at hb
      rcases hb with hb | hb
      · rw [List.getD_eq_getElem?_getD, List.getElem?_eq_getElem hlt] at hb
        exact hF _ _ (List.getElem?_eq_getElem hlt) b hb
      · obtain ⟨u, hu⟩ := symF_text hF (hm.kind x hxm s (List.mem_of_getElem? hi)) hb
        have e1 : x.right = x.right.take i ++ s :: x.right.drop (i + 1) := by
          have hil := (List.getElem?_eq_some_iff.1 hi).1
          have := (List.getElem?_eq_some_iff.1 hi).2
          rw [← this, List.getElem_cons_drop, List.take_append_drop]
        have h1 : ∀ (l : List SymM), (∀ y, y ∈ l → SymT (TX g) y []) → TXs (TX g) l [] := by
          intro l
          induction l with
          | nil => intro _; rfl
          | cons y r ih => intro h; exact ⟨[], [], rfl, h y (by simp), ih fun z hz => h z (by simp [hz])⟩
        have hp := h1 (x.right.take i) (fun y hy => by
          obtain ⟨j, hj⟩ := List.mem_iff_getElem?.1 hy
          have hjl := (List.getElem?_eq_some_iff.1 hj).1
          rw [List.length_take] at hjl
          rw [List.getElem?_take, if_pos (by omega)] at hj
          exact symE_text hM (hm.kind x hxm y (List.mem_of_getElem? hj)) (ha j y (by omega) hj))
        obtain ⟨v, hv⟩ : ∃ v, TXs (TX g) (x.right.drop (i + 1)) v := txs_of fun y hy => by
          have hym : y ∈ x.right := List.mem_of_mem_drop hy
          by_cases hyk : y.kind = 1
          · rw [List.any_eq_false] at hlv
            have := hlv y hym
            unfold lacksQ at this
            rw [hyk] at this
            have hl : lv L y.sort = true := by simpa using this
            have hpv : PV g y.sort.toNat := (hL.2 _).1 (by
              unfold lv at hl
              rw [List.getD_eq_getElem?_getD] at hl
              cases e : L[y.sort.toNat]? with
              | none => rw [e] at hl; simp at hl
              | some v => rw [e] at hl; simp at hl; rw [hl])
            obtain ⟨t, ht⟩ := (pv_iff hs).1 hpv
            exact ⟨t, .inl ⟨hyk, ht⟩⟩
          · obtain ⟨c, hc⟩ := bv_bit (hs.set x hxm y hym hyk).2
            exact ⟨[c], .inr ⟨hyk, c, rfl, hc⟩⟩
        have hall : TXs (TX g) x.right ([] ++ ((b :: u) ++ v)) := by
          rw [e1]
          exact hp.append ⟨b :: u, v, rfl, hu, hv⟩
        exact ⟨u ++ v, TX.mk hxm hr hall⟩
    · cases hk
  · exact hF k t hk b hb
theorem firstP_of {g : GramM} (hm : MayB g) (hs : MaySet g) {M L : List Bool} (hM : NullP g M) (hL : Live g L) {F : List BS} (hlen : F.length = g.sorts.length) (hF : SoundF g F) (hq : ∀ x, x ∈ livL g L → QuietF M x F) : FirstP g F := by
  have key : ∀ {k : Nat} {t : List UInt8}, TX g k t → TX g k t ∧ ∀ b u, t = b :: u → (F.getD k 0#256).getLsbD b.toNat = true := fun {k t} ht => by
    refine TX.ind (P := fun k t => TX g k t ∧ ∀ b u, t = b :: u → (F.getD k 0#256).getLsbD b.toNat = true) (fun x t hx hr h1 h2 => ⟨TX.mk hx hr h1, ?_⟩) ht
    have hxl : x ∈ livL g L := by
      refine livL_mem.2 ⟨hx, hr, ?_⟩
      rw [List.any_eq_false]
      intro s hsx
      unfold lacksQ
      by_cases hkk : s.kind = 1
      · obtain ⟨v, hv⟩ := txs_syms h1 s hsx hkk
        have hpv := (hL.2 _).2 ((pv_iff hs).2 ⟨v, hv⟩)
        have : lv L s.sort = true := by
          unfold lv
          rw [List.getD_eq_getElem?_getD, hpv]
          rfl
        rw [this]; simp
      · have : (s.kind == 1) = false := by simpa using hkk
        rw [this]; simp
    have hQ := hq x hxl
    have walk : ∀ (l : List SymM) (i : Nat) (t : List UInt8), x.right.drop i = l → AheadE M x.right i → TXs (fun k t => TX g k t ∧ ∀ b u, t = b :: u → (F.getD k 0#256).getLsbD b.toNat = true) l t → ∀ b u, t = b :: u → (F.getD x.left.toNat 0#256).getLsbD b.toNat = true := by
      intro l
      induction l with
      | nil => intro i t _ _ h b u e; cases h; cases e
      | cons s r ih =>
        rintro i t hd ha ⟨a, c, rfl, h3, h4⟩ b u e
        have hi : x.right[i]? = some s := by
          have := congrArg (fun l => l[0]?) hd
          simpa using this
        have hd2 : x.right.drop (i + 1) = r := by
          have := congrArg List.tail hd
          simpa using this
        have hk := hm.kind x hx s (List.mem_of_getElem? hi)
        cases a with
        | cons y ys =>
          rw [List.cons_append, List.cons.injEq] at e
          obtain ⟨rfl, _⟩ := e
          refine sub_bit (hQ i s hi ha) ?_
          unfold symF
          rcases h3 with ⟨hk1, _, h3⟩ | ⟨hk1, c', hc1, hc2⟩
          · rw [if_neg (by omega)]
            exact h3 _ _ rfl
          · rw [if_pos (by omega)]
            rw [List.cons.injEq] at hc1
            rw [hc1.1]; exact hc2
        | nil =>
          refine ih (i + 1) c hd2 (fun j s' hj hs' => ?_) h4 b u e
          by_cases ej : j = i
          · subst ej
            rw [hi] at hs'; cases hs'
            rcases h3 with ⟨hk1, h3, _⟩ | ⟨_, c', hc1, _⟩
            · unfold symE
              rw [if_neg (by omega)]
              have := (hM.2 _).2 h3
              unfold lv
              rw [List.getD_eq_getElem?_getD, this]
              rfl
            · cases hc1
          · exact ha j s' (by omega) hs'
    exact walk x.right 0 t (by simp) (fun j s hj => by omega) h2
  refine ⟨hlen, fun k s hk b => ⟨hF k s hk b, fun ⟨t, ht⟩ => ?_⟩⟩
  have := (key ht).2 b t rfl
  rw [List.getD_eq_getElem?_getD, hk] at this
  exact this
end Go.Proofs.YtodnlcbnbkkanaaGreatDoor
end
