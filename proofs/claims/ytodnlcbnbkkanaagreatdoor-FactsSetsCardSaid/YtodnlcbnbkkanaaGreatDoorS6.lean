import Derived.WideKeyArr
import Derived.Maps.Keyed
import Derived.Maps.RangeWalk
import Derived.Maps.OwnSet
import Derived.Maps.Views
import Derived.Sort.OwnSorted
import Derived.Test.YtodnlcbnbkkanaaGreatDoorS2
import Derived.Test.YtodnlcbnbkkanaaGreatDoorS5
section
namespace Go.Proofs.YtodnlcbnbkkanaaGreatDoor
open Go Go.RowKit

theorem OwnP.put {N : Nat} {w : World} {a : Option Addr} {c : Nat} {l : List ProdM} (h : OwnP N w a c l) {B k : Nat} (hB : B < N) (v : Value) : OwnP N (w.setCell ⟨B, k, none⟩ v) a c l := by
 refine ⟨?_, h.cap⟩
 rcases h.row with h | ⟨B', cs, h1, h2, hb, hr⟩
 ·exact .inl h
 ·exact .inr ⟨B', cs, h1, h2, hb.other (by show B' ≠ B; omega) _, hr⟩
structure MJ (g : GramM) (S : List Bool → Prop) (w0 : World) (N Bx Bm : Nat) (a : Option Addr) (c : Nat) (M : List Bool) (W : World) : Prop where
 mark : MarkAt Bx Bm M W
 len : M.length = g.sorts.length
 snd : S M
 low : Below w0.heap.size w0 W
 own : OwnP N W a c (mkL g)
 hx : w0.heap.size ≤ Bx ∧ Bx < N ∧ w0.heap.size ≤ Bm ∧ Bm < N ∧ Bx ≠ Bm
section
variable {g : GramM} {S : List Bool → Prop} {w0 : World} {N Bx Bm : Nat} {a : Option Addr} {c : Nat} {M : List Bool} {W : World}
theorem MJ.below {V : World} (h : MJ g S w0 N Bx Bm a c M W) (hB : Below W.heap.size W V) : MJ g S w0 N Bx Bm a c M V :=
 ⟨h.mark.below hB h.mark.lt.1 h.mark.lt.2, h.len, h.snd, h.low.trans (hB.mono h.low.size), h.own.below hB (Nat.le_refl _), h.hx⟩
theorem MJ.set (h : MJ g S w0 N Bx Bm a c M W) (k : Nat) (hs : S (M.set k true)) : MJ g S w0 N Bx Bm a c (M.set k true) (W.setCell ⟨Bm, k, none⟩ (.bool true)) :=
 ⟨h.mark.set h.hx.2.2.2.2 k, by rw [List.length_set]; exact h.len, hs, h.low.setCell (p := ⟨Bm, k, none⟩) h.hx.2.2.1 _, h.own.put h.hx.2.2.2.1 _, h.hx⟩
theorem MJ.prods (h : MJ g S w0 N Bx Bm a c M W) (hg : GIn w0 g) : RowProd W a (mkL g) := h.own.rowProd fun x hx => (RowOf.mem hg.prods (mkL_mem.1 hx).1).below h.low
end
theorem set_true_same {M : List Bool} {k : Nat} (hk : k < M.length) (h : lv M k = true) : M.set k true = M := by
 refine set_same ?_
 have := lv_true h
 rwa [Int.toNat_natCast] at this
theorem lv_false_at {M : List Bool} {k : Nat} (hk : k < M.length) (h : lv M k = false) : M[k]? = some false := by
 unfold lv at h
 rw [Int.toNat_natCast, List.getD_eq_getElem?_getD, List.getElem?_eq_getElem hk] at h
 rw [List.getElem?_eq_getElem hk]
 simpa using h
theorem marks_steps {g : GramM} (hm : MayB g) {S : List Bool → Prop} {w0 : World} (hg : GIn w0 g) {N Bx Bm : Nat} {a : Option Addr} {c : Nat} {K : Nat} {q : List Bool → SymM → Bool}
  (hK : ∀ (x : ProdM) (M : List Bool) (w : World), x ∈ mkL g → MarkAt Bx Bm M w → M.length = g.sorts.length → ProdIn w x → ∀ k : Nat, x.left = k → k < M.length → Calls Tryz.prog K #[prodV x, .pointer (some ⟨Bx, 0, none⟩)] w (MarkPost w Bm k (x.right.any (q M)) (lv M k)))
  (hS : ∀ (x : ProdM) (M : List Bool), x ∈ mkL g → S M → M.length = g.sorts.length → x.right.any (q M) = false → S (M.set x.left.toNat true)) :
  StepsBy K #[.pointer (some ⟨Bx, 0, none⟩)] (mkL g) (MJ g S w0 N Bx Bm a c) (fun x M => x.right.any (q M) = false → lv M x.left = true) (fun M => M.count false) := by
 intro M W x hx hI
 obtain ⟨k, hk, hkn⟩ := hm.left x (mkL_mem.1 hx).1
 have hkl : k < M.length := by rw [hI.len]; exact hkn
 refine (hK x M W hx hI.mark hI.len ((RowOf.mem hg.prods (mkL_mem.1 hx).1).below hI.low) k hk hkl).mono ?_
 rintro e w' ⟨w3, hB, rfl, hw⟩
 have hI3 := hI.below hB
 cases hr : x.right.any (q M) with
 | true =>
  rw [hr, if_pos rfl] at hw
  subst hw
  exact ⟨_, M, rfl, hI3, fun _ => ⟨rfl, fun h => by rw [hr] at h; cases h⟩, fun h => by simp at h⟩
 | false =>
  rw [hr, if_neg (by decide)] at hw
  subst hw
  have hs : S (M.set k true) := by
   have := hS x M hx hI.snd hI.len hr
   rwa [hk, Int.toNat_natCast] at this
  have hI4 := hI3.set k hs
  cases hv : lv M k with
  | true =>
   have e := set_true_same hkl hv
   rw [e] at hI4
   exact ⟨_, M, rfl, hI4, fun _ => ⟨rfl, fun _ => by rw [hk]; exact hv⟩, fun h => by simp at h⟩
  | false =>
   exact ⟨_, M.set k true, rfl, hI4, fun h => by simp at h, fun _ => count_set (lv_false_at hkl hv)⟩
def MarksPost (w : World) (R : List Bool → Prop) (e : Ending) (w' : World) : Prop := ∃ (M : List Bool) (B : Nat), R M ∧ e = .returned (.slice (some ⟨B, 0, none⟩) M.length M.length) ∧ w.heap.size ≤ B ∧ Blk w' B 4 (bools M) ∧ Below w.heap.size w w'
theorem any_lacks {M : List Bool} {x : ProdM} : x.right.any (lacksQ M) = !(sortsB (lv M) x) := by
 unfold sortsB
 rw [← any_not]
 simp only [Bool.not_not]
 congr 1
 funext s
 unfold lacksQ sortB
 cases (s.kind == 1) <;> simp

theorem productive_any_sound {g : GramM} (_hm : MayB g) {x : ProdM} {M : List Bool} (hx : x ∈ mkL g) (hS : Sound g M) (_ : M.length = g.sorts.length) (hq : x.right.any (lacksQ M) = false) : Sound g (M.set x.left.toNat true) :=
 sound_set hS (mkL_mem.1 hx).1 (by
  unfold okP
  have h1 := (mkL_mem.1 hx).2
  rw [any_lacks] at hq
  have : (x.role == 11) = false := by simpa using h1
  rw [this]
  simpa using hq)
theorem productive_any_start (g : GramM) : Sound g (List.replicate g.sorts.length false) := fun k h => by
 rw [List.getElem?_replicate] at h
 split at h <;> simp at h
theorem productive_any_end {g : GramM} (_hm : MayB g) {M : List Bool} (h1 : M.length = g.sorts.length) (h2 : Sound g M) (h3 : ∀ x, x ∈ mkL g → x.right.any (lacksQ M) = false → lv M x.left = true) : Live g M :=
 live_of h1 h2 fun x hx hok => by
  unfold okP at hok
  simp only [Bool.and_eq_true, Bool.not_eq_true', beq_eq_false_iff_ne] at hok
  exact h3 x (mkL_mem.2 ⟨hx, hok.1⟩) (by rw [any_lacks, hok.2]; rfl)

set_option maxRecDepth 100000 in
set_option maxHeartbeats 4000000 in
theorem productive_any (g : GramM) (hm : MayB g) (hf : Fit g) (w : World) (hg : GIn w g) : Calls Tryz.prog 46 #[gramV g] w (MarksPost w (Live g)) := by
 have hmk := fun w' => make_bools g.sorts.length hm.sorts2 w'
 have hb0 := Blk.new w 27 (gramC g)
 obtain ⟨W1, hW1⟩ : ∃ W1, W1 = ((w.alloc (.cells (gramC g) 27)).alloc (.cells (bools (List.replicate g.sorts.length false)) 4)).alloc (.cells #[.slice (some ⟨w.heap.size + 1, 0, none⟩) g.sorts.length g.sorts.length] 31) := ⟨_, rfl⟩
 have hb1 := Blk.new (w.alloc (.cells (gramC g) 27)) 4 (bools (List.replicate g.sorts.length false))
 have hb2 := Blk.new ((w.alloc (.cells (gramC g) 27)).alloc (.cells (bools (List.replicate g.sorts.length false)) 4)) 31 #[.slice (some ⟨w.heap.size + 1, 0, none⟩) g.sorts.length g.sorts.length]
 simp only [World.size_alloc] at hb1 hb2
 have hs1 : W1.heap.size = w.heap.size + 3 := by rw [hW1]; simp
 have hB1 : Below w.heap.size w W1 := by rw [hW1]; exact (((Below.refl _ w).alloc (Nat.le_refl _) _).alloc (by simp) _).alloc (by simp; omega) _
 have k0 : Blk W1 w.heap.size 27 (gramC g) := by rw [hW1]; exact (hb0.alloc _).alloc _
 have kM : MarkAt (w.heap.size + 1 + 1) (w.heap.size + 1) (List.replicate g.sorts.length false) W1 := by rw [hW1]; exact ⟨by rw [List.length_replicate]; exact hb2, hb1.alloc _⟩
 have HMk := Lib.hid (making_any g hm W1 (hg.below hB1))
 have HSet := Lib.hid (fun (a : Option Addr) (c : Nat) (W : World) (hW : Below W1.heap.size W1 W) (ho : OwnP W1.heap.size W a c (mkL g)) =>
  settle_any (mkL g) a c 69 #[.pointer (some ⟨w.heap.size + 1 + 1, 0, none⟩)] (fun _ _ => by kernel_rfl) (MJ g (Sound g) w W1.heap.size (w.heap.size + 1 + 1) (w.heap.size + 1) a c) _ _ (Nat.le_trans (mkL_len g) (Nat.le_trans hm.prods (by omega)))
   (fun M W h => h.prods hg) (fun M W V h hB => h.below hB) (marks_steps hm hg (fun x M w hx hM hl hi k hk hkl => f69_any x _ _ M w hM (by rw [hl]; exact hm.sorts2) hi (hm.right x (mkL_mem.1 hx).1) (fun s hs hk => by rw [hl]; exact hm.sym x (mkL_mem.1 hx).1 s hs hk) k hk hkl) (fun x M hx hS hl hq => productive_any_sound hm hx hS hl hq)) (List.replicate g.sorts.length false) W
   ⟨kM.below hW (by rw [hs1]; omega) (by rw [hs1]; omega), by simp, productive_any_start g, hB1.trans (hW.mono hB1.size), ho, by omega, by rw [hs1]; omega, by omega, by rw [hs1]; omega, by omega⟩)
 have HEnd : Hid (∀ M, M.length = g.sorts.length → Sound g M → (∀ x, x ∈ mkL g → x.right.any (lacksQ M) = false → lv M x.left = true) → Live g M) := Lib.hid fun M h1 h2 h3 => productive_any_end hm h1 h2 h3
 have HK0 := Lib.hid k0
 have HW1 := Lib.hid hW1
 have HB1 := Lib.hid hB1
 have Hs1 := Lib.hid hs1
 obtain ⟨n, hn⟩ : ∃ n, n = g.sorts.length := ⟨_, rfl⟩
 have N1 := Lib.hid hn
 have hn1 := hm.sorts2
 rw [← hn] at hn1 hmk HW1
 clear hm hf hg hb0 hb1 hb2 k0 kM hB1 hs1 hW1
 unfold gramV gramC at *
 rw [← hn] at HW1 HK0 HMk HEnd ⊢
 clear hn
 obtain ⟨RL, hRL⟩ : ∃ RL : List Bool, RL = List.replicate n false := ⟨_, rfl⟩
 rw [← hRL] at hmk HW1
 clear hRL
 go_enter Tryz.func46, Tryz.ntmps46
 go_wp2_with fail
 rw [← HW1.out]
 refine HMk.out.mono ?_
 rintro e w3 ⟨a, c, rfl, hO, hB3⟩
 have HC := Lib.hid (HSet.out a c w3 hB3 hO)
 clear hO hB3 HSet HMk
 go_wp2_with fail
 refine HC.out.mono ?_
 rintro e w4 ⟨rfl, M, hJ, hq⟩
 have HR := Lib.hid (HEnd.out M (by rw [hJ.len, N1.out]) hJ.snd hq)
 have HJ := Lib.hid hJ
 have cx := hJ.mark.bx.cell 0
 have lx := hJ.mark.bx.lt
 clear hJ hq HC HEnd
 go_wp2
 go_ret
 exact ⟨M, w.heap.size + 1, HR.out, rfl, by omega, HJ.out.mark.bm, HJ.out.low⟩

def SoundE (g : GramM) (M : List Bool) : Prop := ∀ k : Nat, M[k]? = some true → TX g k []
def NullP (g : GramM) (M : List Bool) : Prop := M.length = g.sorts.length ∧ ∀ k : Nat, M[k]? = some true ↔ TX g k []
theorem NullP.unique {g : GramM} {L L' : List Bool} (h : NullP g L) (h' : NullP g L') : L = L' := by
 refine List.ext_getElem (h.1.trans h'.1.symm) fun k h1 h2 => ?_
 have a := (h.2 k).trans (h'.2 k).symm
 rw [List.getElem?_eq_getElem h1, List.getElem?_eq_getElem h2] at a
 simp only [Option.some.injEq] at a
 exact Bool.eq_iff_iff.2 a
theorem kind_one {g : GramM} (hm : MayB g) {x : ProdM} (hx : x ∈ g.prods) {s : SymM} (hs : s ∈ x.right) (h : s.kind ≠ 0) : s.kind = 1 := (hm.kind x hx s hs).resolve_left h
theorem filled_txs {g : GramM} {M : List Bool} (hS : SoundE g M) : ∀ (l : List SymM), (∀ s, s ∈ l → s.kind = 0 ∨ s.kind = 1) → l.any (filledQ M) = false → TXs (TX g) l [] := by
 intro l
 induction l with
 | nil => intro _ _; rfl
 | cons s r ih =>
  intro hk h
  rw [List.any_cons, Bool.or_eq_false_iff] at h
  refine ⟨[], [], rfl, ?_, ih (fun s hs => hk s (by simp [hs])) h.2⟩
  have h1 := h.1
  unfold filledQ at h1
  rw [Bool.or_eq_false_iff] at h1
  have h0 : s.kind ≠ 0 := by simpa using h1.1
  exact .inl ⟨(hk s (by simp)).resolve_left h0, hS _ (lv_true (by simpa using h1.2))⟩
theorem nullable_any_sound {g : GramM} (hm : MayB g) {x : ProdM} {M : List Bool} (hx : x ∈ mkL g) (hS : SoundE g M) (_ : M.length = g.sorts.length) (hq : x.right.any (filledQ M) = false) : SoundE g (M.set x.left.toNat true) := fun k hk => by
 rw [List.getElem?_set] at hk
 split at hk
 ·next e =>
  subst e
  exact TX.mk (mkL_mem.1 hx).1 (mkL_mem.1 hx).2 (filled_txs hS _ (hm.kind x (mkL_mem.1 hx).1) hq)
 ·exact hS k hk
theorem nullable_any_start (g : GramM) : SoundE g (List.replicate g.sorts.length false) := fun k h => by
 rw [List.getElem?_replicate] at h
 split at h <;> simp at h
theorem txs_nil {T : Nat → List UInt8 → Prop} : ∀ {l : List SymM}, TXs T l [] → ∀ s, s ∈ l → s.kind = 1 ∧ T s.sort.toNat [] := by
 intro l
 induction l with
 | nil => intro _ s hs; cases hs
 | cons y r ih =>
  rintro ⟨a, b, e, h1, h2⟩ s hs
  obtain ⟨rfl, rfl⟩ : a = [] ∧ b = [] := by simpa using e.symm
  rcases List.mem_cons.1 hs with rfl | hs
  ·rcases h1 with h1 | ⟨_, b, h1, _⟩
   ·exact h1
   ·cases h1
  ·exact ih h2 s hs
theorem nullable_any_end {g : GramM} (_hm : MayB g) {M : List Bool} (h1 : M.length = g.sorts.length) (h2 : SoundE g M) (h3 : ∀ x, x ∈ mkL g → x.right.any (filledQ M) = false → lv M x.left = true) : NullP g M := by
 refine ⟨h1, fun k => ⟨h2 k, fun hk => ?_⟩⟩
 refine TX.ind (P := fun k t => t = [] → M[k]? = some true) (fun x t hx hr _ h e => ?_) hk rfl
 subst e
 refine lv_true (h3 x (mkL_mem.2 ⟨hx, hr⟩) ?_)
 rw [List.any_eq_false]
 intro s hs hf
 obtain ⟨hk, h⟩ := txs_nil h s hs
 unfold filledQ at hf
 rw [hk, lv_some (h rfl)] at hf
 simp at hf

set_option maxRecDepth 100000 in
set_option maxHeartbeats 4000000 in
theorem nullable_any (g : GramM) (hm : MayB g) (hf : Fit g) (w : World) (hg : GIn w g) : Calls Tryz.prog 48 #[gramV g] w (MarksPost w (NullP g)) := by
 have hmk := fun w' => make_bools g.sorts.length hm.sorts2 w'
 have hb0 := Blk.new w 27 (gramC g)
 obtain ⟨W1, hW1⟩ : ∃ W1, W1 = ((w.alloc (.cells (gramC g) 27)).alloc (.cells (bools (List.replicate g.sorts.length false)) 4)).alloc (.cells #[.slice (some ⟨w.heap.size + 1, 0, none⟩) g.sorts.length g.sorts.length] 31) := ⟨_, rfl⟩
 have hb1 := Blk.new (w.alloc (.cells (gramC g) 27)) 4 (bools (List.replicate g.sorts.length false))
 have hb2 := Blk.new ((w.alloc (.cells (gramC g) 27)).alloc (.cells (bools (List.replicate g.sorts.length false)) 4)) 31 #[.slice (some ⟨w.heap.size + 1, 0, none⟩) g.sorts.length g.sorts.length]
 simp only [World.size_alloc] at hb1 hb2
 have hs1 : W1.heap.size = w.heap.size + 3 := by rw [hW1]; simp
 have hB1 : Below w.heap.size w W1 := by rw [hW1]; exact (((Below.refl _ w).alloc (Nat.le_refl _) _).alloc (by simp) _).alloc (by simp; omega) _
 have k0 : Blk W1 w.heap.size 27 (gramC g) := by rw [hW1]; exact (hb0.alloc _).alloc _
 have kM : MarkAt (w.heap.size + 1 + 1) (w.heap.size + 1) (List.replicate g.sorts.length false) W1 := by rw [hW1]; exact ⟨by rw [List.length_replicate]; exact hb2, hb1.alloc _⟩
 have HMk := Lib.hid (making_any g hm W1 (hg.below hB1))
 have HSet := Lib.hid (fun (a : Option Addr) (c : Nat) (W : World) (hW : Below W1.heap.size W1 W) (ho : OwnP W1.heap.size W a c (mkL g)) =>
  settle_any (mkL g) a c 74 #[.pointer (some ⟨w.heap.size + 1 + 1, 0, none⟩)] (fun _ _ => by kernel_rfl) (MJ g (SoundE g) w W1.heap.size (w.heap.size + 1 + 1) (w.heap.size + 1) a c) _ _ (Nat.le_trans (mkL_len g) (Nat.le_trans hm.prods (by omega)))
   (fun M W h => h.prods hg) (fun M W V h hB => h.below hB) (marks_steps hm hg (fun x M w hx hM hl hi k hk hkl => f74_any x _ _ M w hM (by rw [hl]; exact hm.sorts2) hi (hm.right x (mkL_mem.1 hx).1) (fun s hs hk => by rw [hl]; exact hm.sym x (mkL_mem.1 hx).1 s hs (kind_one hm (mkL_mem.1 hx).1 hs hk)) k hk hkl) (fun x M hx hS hl hq => nullable_any_sound hm hx hS hl hq)) (List.replicate g.sorts.length false) W
   ⟨kM.below hW (by rw [hs1]; omega) (by rw [hs1]; omega), by simp, nullable_any_start g, hB1.trans (hW.mono hB1.size), ho, by omega, by rw [hs1]; omega, by omega, by rw [hs1]; omega, by omega⟩)
 have HEnd : Hid (∀ M, M.length = g.sorts.length → SoundE g M → (∀ x, x ∈ mkL g → x.right.any (filledQ M) = false → lv M x.left = true) → NullP g M) := Lib.hid fun M h1 h2 h3 => nullable_any_end hm h1 h2 h3
 have HK0 := Lib.hid k0
 have HW1 := Lib.hid hW1
 have HB1 := Lib.hid hB1
 have Hs1 := Lib.hid hs1
 obtain ⟨n, hn⟩ : ∃ n, n = g.sorts.length := ⟨_, rfl⟩
 have N1 := Lib.hid hn
 have hn1 := hm.sorts2
 rw [← hn] at hn1 hmk HW1
 clear hm hf hg hb0 hb1 hb2 k0 kM hB1 hs1 hW1
 unfold gramV gramC at *
 rw [← hn] at HW1 HK0 HMk HEnd ⊢
 clear hn
 obtain ⟨RL, hRL⟩ : ∃ RL : List Bool, RL = List.replicate n false := ⟨_, rfl⟩
 rw [← hRL] at hmk HW1
 clear hRL
 go_enter Tryz.func48, Tryz.ntmps48
 go_wp2_with fail
 rw [← HW1.out]
 refine HMk.out.mono ?_
 rintro e w3 ⟨a, c, rfl, hO, hB3⟩
 have HC := Lib.hid (HSet.out a c w3 hB3 hO)
 clear hO hB3 HSet HMk
 go_wp2_with fail
 refine HC.out.mono ?_
 rintro e w4 ⟨rfl, M, hJ, hq⟩
 have HR := Lib.hid (HEnd.out M (by rw [hJ.len, N1.out]) hJ.snd hq)
 have HJ := Lib.hid hJ
 have cx := hJ.mark.bx.cell 0
 have lx := hJ.mark.bx.lt
 clear hJ hq HC HEnd
 go_wp2
 go_ret
 exact ⟨M, w.heap.size + 1, HR.out, rfl, by omega, HJ.out.mark.bm, HJ.out.low⟩
end Go.Proofs.YtodnlcbnbkkanaaGreatDoor
end
section
namespace Go.Proofs.YtodnlcbnbkkanaaGreatDoor
open Go Go.RowKit

def SoundR (g : GramM) (M : List Bool) : Prop := M[g.start.toNat]? = some true ∧ SoundU g false [] M
structure RL (g : GramM) (x : ProdM) (k : Nat) (M0 : List Bool) (j : Nat) (news : Bool) (M : List Bool) : Prop where
 no : news = false → M = M0 ∧ (lv M0 k = true → ∀ (i : Nat) (s : SymM), i < j → x.right[i]? = some s → s.kind = 1 → lv M0 s.sort = true)
 yes : news = true → M.count false < M0.count false
def ReachR (g : GramM) (M : List Bool) : Prop := ReachU g false [] M
end Go.Proofs.YtodnlcbnbkkanaaGreatDoor
end
section
namespace Go.Proofs.YtodnlcbnbkkanaaGreatDoor
open Go Go.RowKit

def ints (L : List Int) : Array Value := (L.map (Value.int .i64)).toArray
theorem ints_at (L : List Int) (i : Nat) (h : i < L.length) : (ints L)[i]? = some (.int .i64 L[i]) := by
 unfold ints
 simp [List.getElem?_eq_getElem h]
theorem ints_set (L : List Int) (i : Nat) (v : Int) : (ints L).setIfInBounds i (.int .i64 v) = ints (L.set i v) := by
 unfold ints
 rw [List.setIfInBounds_toArray, List.map_set]
def arrL (S : List Int) : List Int := S ++ List.replicate (1000 - S.length) (-1)
theorem arrL_len {S : List Int} (h : S.length ≤ 1000) : (arrL S).length = 1000 := by unfold arrL; simp; omega
theorem arrL_at {S : List Int} {k : Nat} (h : k < S.length) : (ints (arrL S))[k]? = some (.int .i64 (gi S k)) := by
 rw [ints_at _ _ (by unfold arrL; simp; omega)]
 unfold arrL gi
 rw [List.getElem_append_left h, Int.toNat_natCast, List.getD_eq_getElem?_getD, List.getElem?_eq_getElem h]; rfl
theorem arrL_set {S : List Int} {k : Nat} (h : k < S.length) (v : Int) : (ints (arrL S)).setIfInBounds k (.int .i64 v) = ints (arrL (S.set k v)) := by
 rw [ints_set]
 unfold arrL
 rw [List.set_append_left _ _ h, List.length_set]

theorem sumA_tail (S : List Int) (s : SymM) : ∀ (l : List SymM) (j : Nat) (n : Int), l[j]? = some s → symN S s < 0 → sumA S l n = -1 := by
 intro l
 induction l with
 | nil => intro j n h; simp at h
 | cons x r ih =>
  intro j n h hs
  rw [sumA_cons]
  split
  ·rfl
  ·next hx =>
   cases j with
   | zero => simp at h; subst h; exact absurd hs hx
   | succ j => exact ih j _ (by simpa using h) hs

set_option maxRecDepth 100000 in
set_option maxHeartbeats 4000000 in
theorem of_any (x : ProdM) (S : List Int) (B : Nat) (w : World) (hb : Blk w B 127 (ints (arrL S))) (hS : S.length ≤ 1000) (hlo : ∀ i, -1 ≤ gi S i ∧ gi S i ≤ 1048577) (hx : ProdIn w x) (hr : x.right.length ≤ 30) (hs : ∀ s, s ∈ x.right → s.kind = 1 → ∃ k : Nat, s.sort = k ∧ k < S.length) :
  Calls Tryz.prog 83 #[.pointer (some ⟨B, 0, none⟩), prodV x] w fun e w' => e = .returned (.int .i64 (sumA S x.right 0)) ∧ Below w.heap.size w w' := by
 have hB1 : Below w.heap.size w (w.alloc (.cells (prodC x) 65)) := (Below.refl _ _).alloc (Nat.le_refl _) _
 have HP := Lib.hid (Blk.new w 65 (prodC x))
 have HB := Lib.hid hB1
 have HRow : Hid (RowSym w x.ra x.right) := Lib.hid hx
 have HS := Lib.hid hs
 have HA := Lib.hid hb
 have HLo := Lib.hid hlo
 have hbl := hb.lt
 obtain ⟨ra, hra⟩ : ∃ ra, ra = x.ra := ⟨_, rfl⟩
 obtain ⟨n, hn⟩ : ∃ n, n = x.right.length := ⟨_, rfl⟩
 have HN := Lib.hid hn
 obtain ⟨q, hq⟩ : ∃ q, q = sumA S x.right 0 := ⟨_, rfl⟩
 have HQ := Lib.hid hq
 have HE : Hid (prodC x = #[.int .i64 x.left, .slice ra n x.rc, .string x.cons, .int .i64 x.role, .bool x.prefer, .bool x.avoid, .int .i64 x.frm]) := Lib.hid (by rw [hra, hn]; rfl)
 rw [← hra] at HRow
 rw [← hq]
 rw [← hn] at hr
 unfold prodV
 rw [HE.out] at HP HB ⊢
 obtain ⟨c0, c1, c2, c3, c4, c5, c6⟩ := cells7 HP.out
 clear hB1 hx hs hb hlo hra hn hq HE
 go_enter Tryz.func83, Tryz.ntmps83
 go_wp2
 go_loopw [5, 12] (fun vs vj wr => ∃ (j : Nat) (t : Int), vs = .int .i64 t ∧ vj = .int .i64 j ∧ j ≤ n ∧ 0 ≤ t ∧ t ≤ 1048577 ∧ Hid (t = sumA S (x.right.take j) 0) ∧ Hid (Below w.heap.size w wr)) (fun _ vj _ => n - (intOf vj).toNat)
 case atStart => exact ⟨0, 0, rfl, rfl, Nat.zero_le _, Int.le_refl _, by omega, Lib.hid rfl, HB⟩
 case round =>
  clear c0 c1 c2 c3 c4 c5 c6 HP HB
  obtain ⟨j, t, rfl, rfl, hj, ht0, ht1, K, HBr⟩ := hrel
  by_cases hlt : j < n
  ·obtain ⟨s, hs⟩ : ∃ s, x.right[j]? = some s := ⟨_, List.getElem?_eq_getElem (by rw [← HN.out]; exact hlt)⟩
   obtain ⟨b1, o1, rfl, hb1, hc1, _⟩ := HRow.out j s hs
   have hc1 := hc1.below HBr.out hb1
   have hb1' := Nat.lt_of_lt_of_le hb1 HBr.out.size
   obtain ⟨s0, s1, s2, s3, s4, s5⟩ := Sym_at hc1
   have z1 : (j : Int) < (n : Int) := by omega
   have z0 : (0 : Int) ≤ (j : Int) := by omega
   have HSk := Lib.hid (HS.out s (List.mem_of_getElem? hs))
   have HSum : Hid (sumA S (x.right.take (j + 1)) 0 = if symN S s < 0 then -1 else min (t + symN S s) 1048577) := Lib.hid (by
    rw [take_snoc x.right j s hs, sumA_snoc S s _ 0 (Int.le_refl 0), ← K.out, if_neg (by omega)])
   have HNeg : Hid (symN S s < 0 → q = -1) := Lib.hid (fun h => by
    rw [HQ.out]
    have e := sumA_tail S s x.right j 0 hs h
    exact e)
   have hbr : B < wr.heap.size := Nat.lt_of_lt_of_le hbl HBr.out.size
   have HAr := Lib.hid (HA.out.below HBr.out hbl)
   clear hs hc1 K
   obtain ⟨sk, ss, so⟩ := s
   dsimp only at *
   cases k1 : (sk == 1) with
   | false =>
    have hv : Hid (symN S ⟨sk, ss, so⟩ = 1) := Lib.hid (by unfold symN; rw [if_neg (by simpa using k1)])
    have HZ : Hid (min (t + 1) 1048577 = sumA S (x.right.take (j + 1)) 0) := Lib.hid (by rw [HSum.out, hv.out, if_neg (by decide)])
    have z3 : IntKind.i64.wrap (t + 1) = t + 1 := IntWalk.i64_in _ (by omega)
    clear HSum HNeg HSk HAr
    go_wp2
    go_roundw
    case rel => exact ⟨j + 1, if 1048577 < t + 1 then 1048577 else t + 1, rfl, by go_num, by omega, by split <;> omega, by split <;> omega, Lib.hid (by rw [← HZ.out]; split <;> omega), Lib.hid (HBr.out.alloc HBr.out.size _)⟩
    case measure => simp [intOf]; omega
   | true =>
    obtain ⟨k, rfl, hk⟩ := HSk.out (by simpa using k1)
    have cA := HAr.out.cell k
    rw [arrL_at hk] at cA
    have hv : Hid (symN S ⟨sk, ss, (k : Int)⟩ = gi S k) := Lib.hid (by unfold symN; rw [if_pos (by simpa using k1)])
    obtain ⟨g1, g2⟩ := HLo.out k
    obtain ⟨v, hvv⟩ : ∃ v, v = gi S (k : Int) := ⟨_, rfl⟩
    rw [← hvv] at cA g1 g2 hv
    have hk1 : k < 1000 := by omega
    have kz1 : (k : Int) < 1000 := by omega
    have kz0 : (0 : Int) ≤ (k : Int) := by omega
    clear hvv HSk HAr hk
    by_cases hneg : v = -1
    ·subst hneg
     have HE := Lib.hid (HNeg.out (by rw [hv.out]; decide))
     clear HSum HNeg
     go_wp2
     go_quiet (fail)
     go_wp2
     go_ret
     exact ⟨by rw [HE.out]; rfl, below_drewN (HBr.out.alloc HBr.out.size _) _⟩
    ·have hneg2 : (v == -1) = false := by simpa using hneg
     have HZ : Hid (min (t + v) 1048577 = sumA S (x.right.take (j + 1)) 0) := Lib.hid (by rw [HSum.out, hv.out, if_neg (by omega)])
     have z3 : IntKind.i64.wrap (t + v) = t + v := IntWalk.i64_in _ (by omega)
     have hv0 : 0 ≤ v := by omega
     clear HSum HNeg hneg
     go_wp2
     go_quiet (fail)
     go_wp2
     go_roundw
     case rel => exact ⟨j + 1, if 1048577 < t + v then 1048577 else t + v, rfl, by go_num, by omega, by split <;> omega, by split <;> omega, Lib.hid (by rw [← HZ.out]; split <;> omega), Lib.hid (below_drewN (HBr.out.alloc HBr.out.size _) _)⟩
     case measure => simp [intOf]; omega
  ·obtain rfl : j = n := by omega
   have HE : Hid (t = q) := Lib.hid (by rw [K.out, HQ.out, List.take_of_length_le (by have := HN.out; omega)])
   clear K
   go_wp2
   go_ret
   exact ⟨by rw [← HE.out]; rfl, HBr.out⟩
end Go.Proofs.YtodnlcbnbkkanaaGreatDoor
end
section
namespace Go.Proofs.YtodnlcbnbkkanaaGreatDoor
open Go Go.RowKit

structure NJ (g : GramM) (w0 : World) (N B : Nat) (a : Option Addr) (c : Nat) (S : List Int) (W : World) : Prop where
 arr : Blk W B 127 (ints (arrL S))
 len : S.length = g.sorts.length
 snd : SoundN g S
 low : Below w0.heap.size w0 W
 own : OwnP N W a c (mkL g)
 hx : w0.heap.size ≤ B ∧ B < N
section
variable {g : GramM} {w0 : World} {N B : Nat} {a : Option Addr} {c : Nat} {S : List Int} {W : World}
theorem NJ.below {V : World} (h : NJ g w0 N B a c S W) (hB : Below W.heap.size W V) : NJ g w0 N B a c S V :=
 ⟨h.arr.below hB h.arr.lt, h.len, h.snd, h.low.trans (hB.mono h.low.size), h.own.below hB (Nat.le_refl _), h.hx⟩
theorem NJ.set (h : NJ g w0 N B a c S W) {k : Nat} (hk : k < S.length) {v : Int} (hs : SoundN g (S.set k v)) : NJ g w0 N B a c (S.set k v) (W.setCell ⟨B, k, none⟩ (.int .i64 v)) :=
 ⟨by rw [← arrL_set hk]; exact h.arr.set k _, by rw [List.length_set]; exact h.len, hs, h.low.setCell (p := ⟨B, k, none⟩) h.hx.1 _, h.own.put h.hx.2 _, h.hx⟩
theorem NJ.prods (h : NJ g w0 N B a c S W) (hg : GIn w0 g) : RowProd W a (mkL g) := h.own.rowProd fun x hx => (RowOf.mem hg.prods (mkL_mem.1 hx).1).below h.low
end
theorem gi_nat {S : List Int} {k : Nat} (h : k < S.length) : S[k]? = some (gi S k) := by
 unfold gi; rw [Int.toNat_natCast, List.getD_eq_getElem?_getD, List.getElem?_eq_getElem h]; rfl

def ShortPost (w : World) (B k : Nat) (n u : Int) (e : Ending) (w' : World) : Prop := ∃ w3, Below w.heap.size w w3 ∧
 ((n = -1 ∨ (u ≠ -1 ∧ u ≤ n)) ∧ e = .returned (.bool false) ∧ w' = w3 ∨ (n ≠ -1 ∧ (u = -1 ∨ n < u)) ∧ e = .returned (.bool true) ∧ w' = w3.setCell ⟨B, k, none⟩ (.int .i64 n))

set_option maxRecDepth 100000 in
set_option maxHeartbeats 4000000 in
theorem f82_any (x : ProdM) (S : List Int) (B : Nat) (w : World) (hb : Blk w B 127 (ints (arrL S))) (hS : S.length ≤ 1000) (hlo : ∀ i, -1 ≤ gi S i ∧ gi S i ≤ 1048577) (hx : ProdIn w x) (hr : x.right.length ≤ 30) (hs : ∀ s, s ∈ x.right → s.kind = 1 → ∃ k : Nat, s.sort = k ∧ k < S.length) (k : Nat) (hk : x.left = k) (hkl : k < S.length) :
  Calls Tryz.prog 82 #[prodV x, .pointer (some ⟨B, 0, none⟩)] w (ShortPost w B k (sumA S x.right 0) (gi S k)) := by
 have hB1 : Below w.heap.size w (w.alloc (.cells (prodC x) 65)) := (Below.refl _ _).alloc (Nat.le_refl _) _
 have hlt := hb.lt
 have HC := Lib.hid (of_any x S B _ (hb.below hB1 hlt) hS hlo (hx.below hB1) hr hs)
 have HP := Lib.hid (Blk.new w 65 (prodC x))
 have HB := Lib.hid hB1
 have HA := Lib.hid hb
 have HK := Lib.hid hkl
 have hk1 : k < 1000 := by omega
 have HE : Hid (prodC x = #[.int .i64 (k : Int), .slice x.ra x.right.length x.rc, .string x.cons, .int .i64 x.role, .bool x.prefer, .bool x.avoid, .int .i64 x.frm]) := Lib.hid (by rw [← hk]; rfl)
 have hn := sumA_range S x.right 0 (by omega) (by omega)
 obtain ⟨n, hnn⟩ : ∃ n, n = sumA S x.right 0 := ⟨_, rfl⟩
 rw [← hnn] at HC hn ⊢
 obtain ⟨u, hu⟩ : ∃ u, u = gi S (k : Int) := ⟨_, rfl⟩
 have HU := Lib.hid hu
 rw [← hu]
 clear hu
 unfold prodV at *
 rw [HE.out] at HC HP HB ⊢
 obtain ⟨c0, c1, c2, c3, c4, c5, c6⟩ := cells7 HP.out
 clear hB1 hb hx hs hk hkl hnn hlo hr hS
 go_enter Tryz.func82, Tryz.ntmps82
 go_wp2_with fail
 refine HC.out.mono ?_
 rintro e w3 ⟨rfl, hB3⟩
 have HB3 := Lib.hid (HB.out.trans (hB3.mono HB.out.size))
 have HP3 := Lib.hid (HP.out.below hB3 HP.out.lt)
 have HA3 := Lib.hid (HA.out.below HB3.out hlt)
 obtain ⟨d0, d1, d2, d3, d4, d5, d6⟩ := cells7 HP3.out
 have l3 := HP3.out.lt
 have lA := HA3.out.lt
 have cA := HA3.out.cell k
 rw [arrL_at HK.out] at cA
 have fA := HA3.out.frozen k
 rw [← HU.out] at cA
 have kz1 : (k : Int) < 1000 := by omega
 have kz0 : (0 : Int) ≤ (k : Int) := by omega
 clear hB3 HC c0 c1 c2 c3 c4 c5 c6 HP HA
 by_cases h1 : n = -1
 ·subst h1
  go_wp2
  go_ret
  exact ⟨w3, HB3.out, .inl ⟨.inl rfl, rfl, rfl⟩⟩
 ·have h1b : (n == -1) = false := by simpa using h1
  by_cases h2 : u = -1
  ·subst h2
   have H1 := Lib.hid h1
   clear h1
   go_wp2
   go_ret
   exact ⟨w3, HB3.out, .inr ⟨⟨H1.out, .inl rfl⟩, rfl, rfl⟩⟩
  ·have h2b : (u == -1) = false := by simpa using h2
   have h2c : (u != -1) = true := by simpa using h2
   have H1 := Lib.hid h1
   have H2 := Lib.hid h2
   clear h1 h2
   by_cases h3 : u ≤ n
   ·have h3b : decide (u ≤ n) = true := by simpa using h3
    go_wp2
    go_ret
    exact ⟨w3, HB3.out, .inl ⟨.inr ⟨H2.out, h3⟩, rfl, rfl⟩⟩
   ·have h3b : decide (u ≤ n) = false := by simpa using h3
    have H3 := Lib.hid h3
    clear h3
    go_wp2
    go_ret
    exact ⟨w3, HB3.out, .inr ⟨⟨H1.out, .inr (by have := H3.out; omega)⟩, rfl, rfl⟩⟩
theorem short_steps {g : GramM} (hm : MayB g) (hs : MaySet g) {w0 : World} (hg : GIn w0 g) {N B : Nat} {a : Option Addr} {c : Nat} :
  StepsBy 82 #[.pointer (some ⟨B, 0, none⟩)] (mkL g) (NJ g w0 N B a c) (fun x S => okN S x) sizeN := by
 intro S W x hx hI
 obtain ⟨k, hk, hkn⟩ := hm.left x (mkL_mem.1 hx).1
 have hkl : k < S.length := by rw [hI.len]; exact hkn
 have hxg := (mkL_mem.1 hx).1
 have hr := sumA_range S x.right 0 (by omega) (by omega)
 refine (f82_any x S B W hI.arr (by rw [hI.len]; exact hm.sorts2) hI.snd.lo ((RowOf.mem hg.prods hxg).below hI.low) (hm.right x hxg) (fun s hs hk => by rw [hI.len]; exact hm.sym x hxg s hs hk) k hk hkl).mono ?_
 rintro e w' ⟨w3, hB, ⟨h, rfl, rfl⟩ | ⟨h, rfl, rfl⟩⟩
 ·refine ⟨false, S, rfl, hI.below hB, fun _ => ⟨rfl, fun _ h0 => ?_⟩, fun h => by cases h⟩
  rw [hk]
  have := (hI.snd.lo (k : Int)).1
  omega
 ·have hp : 0 ≤ sumA S x.right 0 := by omega
  have hset := hI.snd.set hs hxg (mkL_mem.1 hx).2 hp
  rw [hk, Int.toNat_natCast] at hset
  refine ⟨true, S.set k (sumA S x.right 0), rfl, (hI.below hB).set hkl hset, fun h => by (cases h), fun _ => ?_⟩
  exact sizeN_set (gi_nat hkl) hp hr.2 (by omega)

def ArrPost (g : GramM) (w : World) (e : Ending) (w' : World) : Prop := ∃ (S : List Int) (B : Nat), ShortP g S ∧ e = .returned (.pointer (some ⟨B, 0, none⟩)) ∧ w.heap.size ≤ B ∧ Blk w' B 127 (ints (arrL S)) ∧ Below w.heap.size w w'

theorem zero127 : Tryz.zeroCells127 = ints (List.replicate 1000 0) := by kernel_rfl
def preL (i : Nat) : List Int := List.replicate i (-1) ++ List.replicate (1000 - i) 0
theorem preL_len {i : Nat} (h : i ≤ 1000) : (preL i).length = 1000 := by unfold preL; simp; omega
theorem preL_set {i : Nat} (h : i < 1000) : (preL i).set i (-1) = preL (i + 1) := by
 unfold preL
 rw [List.set_append_right _ _ (by simp), List.length_replicate, Nat.sub_self, show 1000 - i = (1000 - (i + 1)) + 1 by omega, List.replicate_succ, List.set_cons_zero, List.replicate_succ']
 simp
theorem preL_end (n : Nat) (h : n ≤ 1000) : preL 1000 = arrL (List.replicate n (-1)) := by
 unfold preL arrL
 rw [List.length_replicate, List.replicate_append_replicate, show n + (1000 - n) = 1000 by omega, Nat.sub_self, List.replicate_zero, List.append_nil]
theorem sound_start (g : GramM) : SoundN g (List.replicate g.sorts.length (-1)) := fun k n h => by
 rw [List.getElem?_replicate] at h
 split at h
 ·exact .inl (by simpa using h.symm)
 ·cases h

set_option maxRecDepth 100000 in
set_option maxHeartbeats 4000000 in
theorem shortest_any (g : GramM) (hm : MayB g) (hs : MaySet g) (w : World) (hg : GIn w g) : Calls Tryz.prog 60 #[gramV g] w (ArrPost g w) := by
 have hb0 := Blk.new w 27 (gramC g)
 have hbz := Blk.new (w.alloc (.cells (gramC g) 27)) 127 (ints (preL 0))
 rw [World.size_alloc] at hbz
 have hz : Tryz.zeroCells127 = ints (preL 0) := by rw [zero127]; rfl
 have HMk := Lib.hid (fun W1 (hB1 : Below w.heap.size w W1) => making_any g hm W1 (hg.below hB1))
 have HSet := Lib.hid (fun (W1 : World) (hs1 : w.heap.size + 1 < W1.heap.size) (hB1 : Below w.heap.size w W1) (hz : Blk W1 (w.heap.size + 1) 127 (ints (preL 1000))) (a : Option Addr) (c : Nat) (W : World) (hW : Below W1.heap.size W1 W) (ho : OwnP W1.heap.size W a c (mkL g)) =>
  settle_any (mkL g) a c 82 #[.pointer (some ⟨w.heap.size + 1, 0, none⟩)] (fun _ _ => by kernel_rfl) (NJ g w W1.heap.size (w.heap.size + 1) a c) _ _ (Nat.le_trans (mkL_len g) (Nat.le_trans hm.prods (by omega)))
   (fun S W h => h.prods hg) (fun S W V h hB => h.below hB) (short_steps hm hs hg) (List.replicate g.sorts.length (-1)) W
   ⟨by rw [← preL_end _ hm.sorts2]; exact hz.below hW hs1, by simp, sound_start g, hB1.trans (hW.mono hB1.size), ho, by omega, hs1⟩)
 have HEnd : Hid (∀ S, S.length = g.sorts.length → SoundN g S → (∀ x, x ∈ mkL g → okN S x) → ShortP g S) := Lib.hid fun S h1 h2 h3 => shortP_of hm h1 h2 fun x hx hr => h3 x (mkL_mem.2 ⟨hx, hr⟩) hr
 have HK0 : Hid (Blk ((w.alloc (.cells (gramC g) 27)).alloc (.cells (ints (preL 0)) 127)) w.heap.size 27 (gramC g) ∧ Blk ((w.alloc (.cells (gramC g) 27)).alloc (.cells (ints (preL 0)) 127)) (w.heap.size + 1) 127 (ints (preL 0)) ∧ Below w.heap.size w ((w.alloc (.cells (gramC g) 27)).alloc (.cells (ints (preL 0)) 127))) :=
  Lib.hid ⟨hb0.alloc _, hbz, ((Below.refl _ w).alloc (Nat.le_refl _) _).alloc (by simp) _⟩
 have HZ := Lib.hid hz
 clear hm hs hg hb0 hbz hz
 unfold gramV gramC at *
 go_enter Tryz.func60, Tryz.ntmps60
 go_wp2_with fail
 rw [HZ.out]
 go_loopw [5] (fun vi wr => ∃ i : Nat, vi = .int .i64 i ∧ i ≤ 1000 ∧ Hid (Blk wr w.heap.size 27 #[.slice g.sa g.sorts.length g.sc, .slice g.pa g.prods.length g.pc, .int .i64 g.start, .slice g.fa g.forbid.length g.fc, .slice g.wa g.follow.length g.wc] ∧ Blk wr (w.heap.size + 1) 127 (ints (preL i)) ∧ Below w.heap.size w wr)) (fun vi _ => 1000 - (intOf vi).toNat)
 case atStart => exact ⟨0, rfl, Nat.zero_le _, HK0⟩
 case round =>
  clear HK0 HZ
  obtain ⟨i, rfl, hi, K⟩ := hrel
  by_cases hlt : i < 1000
  ·have z1 : (i : Int) < 1000 := by omega
   have z0 : (0 : Int) ≤ (i : Int) := by omega
   have cA := K.out.2.1.cell i
   rw [ints_at _ _ (by rw [preL_len hi]; exact hlt)] at cA
   have fA := K.out.2.1.frozen i
   have lA := K.out.2.1.lt
   have HN := Lib.hid (K.out.2.1.set i (.int .i64 (-1)))
   have HN2 : Hid (Blk (wr.setCell ⟨w.heap.size + 1, i, none⟩ (.int .i64 (-1))) (w.heap.size + 1) 127 (ints (preL (i + 1)))) := Lib.hid (by have h := HN.out; rw [ints_set, preL_set hlt] at h; exact h)
   have HG := Lib.hid (K.out.1.other (a := ⟨w.heap.size + 1, i, none⟩) (by show w.heap.size ≠ w.heap.size + 1; omega) (.int .i64 (-1)))
   have HB := Lib.hid (K.out.2.2.setCell (p := ⟨w.heap.size + 1, i, none⟩) (by show w.heap.size ≤ w.heap.size + 1; omega) (.int .i64 (-1)))
   obtain ⟨u, hu⟩ : ∃ u, u = (preL i)[i]'(by rw [preL_len hi]; exact hlt) := ⟨_, rfl⟩
   rw [← hu] at cA
   clear K HN hu
   go_wp2
   go_roundw
   case rel => exact ⟨i + 1, by go_num, by omega, Lib.hid ⟨HG.out, HN2.out, HB.out⟩⟩
   case measure => simp [intOf]; omega
  ·obtain rfl : i = 1000 := by omega
   obtain ⟨c0, c1, c2, c3, c4⟩ := (show Blk wr w.heap.size 27 (gramC g) from K.out.1).gram
   have l0 := K.out.1.lt
   have HM := Lib.hid (HMk.out wr K.out.2.2)
   have HS := Lib.hid (HSet.out wr K.out.2.1.lt K.out.2.2 K.out.2.1)
   clear HMk HSet K
   go_wp2_with fail
   refine HM.out.mono ?_
   rintro e w3 ⟨a, c, rfl, hO, hB3⟩
   have HC := Lib.hid (HS.out a c w3 hB3 hO)
   clear hO hB3 HS HM
   go_wp2_with fail
   refine HC.out.mono ?_
   rintro e w4 ⟨rfl, S, hJ, hq⟩
   have HR := Lib.hid (HEnd.out S hJ.len hJ.snd hq)
   have HJ := Lib.hid hJ
   clear hJ hq HC HEnd
   go_wp2
   go_ret
   exact ⟨S, w.heap.size + 1, HR.out, rfl, by omega, HJ.out.arr, HJ.out.low⟩
end Go.Proofs.YtodnlcbnbkkanaaGreatDoor
end
section
namespace Go.Proofs.YtodnlcbnbkkanaaGreatDoor
open Go Go.RowKit

set_option maxRecDepth 100000 in
set_option maxHeartbeats 2000000 in
theorem f110_any (x : ProdM) (Bx Bm : Nat) (M : List Bool) (w : World) (h : MarkAt Bx Bm M w) (hM : M.length ≤ 1000) (hx : ProdIn w x) (hr : x.right.length ≤ 30) (hs : ∀ s, s ∈ x.right → s.kind = 1 → ∃ k : Nat, s.sort = k ∧ k < M.length) :
  Calls Tryz.prog 110 #[prodV x, .pointer (some ⟨Bx, 0, none⟩)] w fun e w' => e = .returned (.bool (x.right.any (lacksQ M))) ∧ Below w.heap.size w w' := by
 have hB1 : Below w.heap.size w (w.alloc (.cells (prodC x) 65)) := (Below.refl _ _).alloc (Nat.le_refl _) _
 obtain ⟨l1, l2⟩ := h.lt
 have HC := Lib.hid (containsSym_any x.ra x.rc x.right (lacksQ M) 111 #[.pointer (some ⟨Bx, 0, none⟩)] (fun _ _ => by kernel_rfl) _ (hx.below hB1) (Nat.le_trans hr (by omega)) (fun s hsx W hW =>
  f111_any s Bx Bm M W ((h.below hB1 l1 l2).below hW (Nat.lt_of_lt_of_le l1 hB1.size) (Nat.lt_of_lt_of_le l2 hB1.size)) hM (hs s hsx)))
 have HB := Lib.hid hB1
 clear hB1 h hx hs hM
 generalize x.right.any (lacksQ M) = r at *
 unfold prodV prodC at *
 go_enter Tryz.func110, Tryz.ntmps110
 go_wp2_with fail
 refine HC.out.mono ?_
 rintro e w3 ⟨rfl, hB3⟩
 have HB3 := Lib.hid (HB.out.trans (hB3.mono HB.out.size))
 clear hB3 HC
 go_wp2
 go_ret
 exact ⟨rfl, HB3.out⟩

def livL (g : GramM) (L : List Bool) : List ProdM := (mkL g).filter fun x => !(x.right.any (lacksQ L))
theorem livL_mem {g : GramM} {L : List Bool} {x : ProdM} : x ∈ livL g L ↔ x ∈ g.prods ∧ treeP x ∧ x.right.any (lacksQ L) = false := by
 unfold livL
 rw [List.mem_filter, mkL_mem]
 simp [and_assoc]
theorem livL_len (g : GramM) (L : List Bool) : (livL g L).length ≤ g.prods.length := Nat.le_trans (List.length_filter_le _ _) (mkL_len g)
def LivPost (g : GramM) (w : World) (e : Ending) (w' : World) : Prop := ∃ (L : List Bool) (a : Option Addr) (c : Nat), Live g L ∧ e = .returned (.slice a (livL g L).length c) ∧ OwnP w.heap.size w' a c (livL g L) ∧ Below w.heap.size w w'

set_option maxRecDepth 100000 in
set_option maxHeartbeats 4000000 in
theorem living_any (g : GramM) (hm : MayB g) (hf : Fit g) (w : World) (hg : GIn w g) : Calls Tryz.prog 84 #[gramV g] w (LivPost g w) := by
 have hB1 : Below w.heap.size w (w.alloc (.cells (gramC g) 27)) := (Below.refl _ _).alloc (Nat.le_refl _) _
 have HC := Lib.hid (productive_any g hm hf _ (hg.below hB1))
 have HB := Lib.hid hB1
 have HK := Lib.hid (Blk.new w 27 (gramC g))
 have HMk := Lib.hid (fun W1 (hB1 : Below w.heap.size w W1) => making_any g hm W1 (hg.below hB1))
 have HDel := Lib.hid (fun (M : List Bool) (Bx Bm N : Nat) (a : Option Addr) (c : Nat) (W : World) (hl : M.length = g.sorts.length) (hN : N ≤ W.heap.size) (hW : Below w.heap.size w W) (hwN : w.heap.size ≤ N) (hk : MarkAt Bx Bm M W) (h1 : Bx < N) (h2 : Bm < N) (ho : OwnP N W a c (mkL g)) =>
  delete_any 110 #[.pointer (some ⟨Bx, 0, none⟩)] (fun _ _ => by kernel_rfl) a c (mkL g) (fun x => x.right.any (lacksQ M)) N W hN (fun x hx V hV => f110_any x Bx Bm M V (hk.below hV h1 h2) (by rw [hl]; exact hm.sorts2) ((RowOf.mem hg.prods (mkL_mem.1 hx).1).below (hW.trans (hV.mono hwN))) (hm.right x (mkL_mem.1 hx).1) (fun s hs hk => by rw [hl]; exact hm.sym x (mkL_mem.1 hx).1 s hs hk))
   (Nat.le_trans (mkL_len g) (Nat.le_trans hm.prods (by omega))) ho)
 clear hm hf hg hB1
 unfold gramV gramC at *
 go_enter Tryz.func84, Tryz.ntmps84
 go_wp2_with fail
 refine HC.out.mono ?_
 rintro e w3 ⟨M, B, hL, rfl, hBl, hbk, hB3⟩
 have HL := Lib.hid hL
 have HK3 := Lib.hid (HK.out.below hB3 HK.out.lt)
 have hB4 : Below w3.heap.size w3 (w3.alloc (.cells #[.slice (some ⟨B, 0, none⟩) M.length M.length] 31)) := (Below.refl _ _).alloc (Nat.le_refl _) _
 have HMA : Hid (MarkAt w3.heap.size B M (w3.alloc (.cells #[.slice (some ⟨B, 0, none⟩) M.length M.length] 31))) := Lib.hid ⟨Blk.new w3 31 _, hbk.below hB4 hbk.lt⟩
 have HB4 := Lib.hid (HB.out.trans ((hB3.trans (hB4.mono hB3.size)).mono HB.out.size))
 have HBB : Hid (w.heap.size ≤ B ∧ B < w3.heap.size ∧ w.heap.size ≤ w3.heap.size) := Lib.hid ⟨Nat.le_trans HB.out.size hBl, hbk.lt, Nat.le_trans HB.out.size hB3.size⟩
 have HC2 := Lib.hid (HMk.out _ HB4.out)
 obtain ⟨c0, c1, c2, c3, c4⟩ := (show Blk w3 w.heap.size 27 (gramC g) from HK3.out).gram
 have l3 := HK3.out.lt
 generalize M.length = n at *
 clear hL hBl hbk hB3 hB4 HC HMk HB HK
 go_wp2_with fail
 refine HC2.out.mono ?_
 rintro e w4 ⟨a, c, rfl, hO, hB5⟩
 have hs4 : w3.heap.size + 1 ≤ w4.heap.size := by have := hB5.size; simpa using this
 have HC3 := Lib.hid (HDel.out M w3.heap.size B (w3.heap.size + 1) a c w4 HL.out.1 hs4 (HB4.out.trans (hB5.mono HB4.out.size)) (by have := HBB.out; omega) (HMA.out.below hB5 (by simp) (by have := HBB.out; simp; omega)) (by omega) (by have := HBB.out; omega) (by simpa using hO))
 have HB5 := Lib.hid (HB4.out.trans (hB5.mono HB4.out.size))
 clear hO hB5 HC2 hs4
 go_wp2_with fail
 refine HC3.out.mono ?_
 rintro e w5 ⟨rfl, hO5, hB6⟩
 have HO5 := Lib.hid hO5
 have HB6 := Lib.hid (HB5.out.trans (hB6.mono (by have := HBB.out; omega)))
 clear hO5 hB6 HC3
 go_wp2
 go_ret
 refine ⟨M, a, c, HL.out, rfl, ⟨?_, HO5.out.cap⟩, HB6.out⟩
 rcases HO5.out.row with h | ⟨B', cs, h1, h2, h3⟩
 ·exact .inl h
 ·exact .inr ⟨B', cs, h1, by have := HBB.out; omega, h3⟩

def TellPost (w : World) (g : GramM) (R : List Bool → Prop) (e : Ending) (w' : World) : Prop :=
 Below w.heap.size w w' ∧ ((checkB g = false ∧ e = .returned (.tuple #[.slice none 0 0, .int .i64 160])) ∨ (checkB g = true ∧ ∃ (M : List Bool) (B : Nat), R M ∧ e = .returned (.tuple #[.slice (some ⟨B, 0, none⟩) M.length M.length, .int .i64 0]) ∧ w.heap.size ≤ B ∧ Blk w' B 4 (bools M)))

set_option maxRecDepth 100000 in
set_option maxHeartbeats 4000000 in
theorem answerB_any (g : GramM) (hf : FitG g) (K : Nat) (eg : ∀ args w, (callFunc K args).run Tryz.prog w = .ok (.enter K args) w) (R : List Bool → Prop) (w : World) (hg : GIn w g) (H : checkB g = true → ∀ W, GIn W g → Calls Tryz.prog K #[gramV g] W (MarksPost W R)) :
  Calls Tryz.prog 45 #[gramV g, .func (.func K) #[] #[]] w (TellPost w g R) := by
 have hB1 : Below w.heap.size w (w.alloc (.cells (gramC g) 27)) := (Below.refl _ _).alloc (Nat.le_refl _) _
 have HC := Lib.hid (check_any g _ (hg.below hB1) hf)
 have HB := Lib.hid hB1
 have HK := Lib.hid (Blk.new w 27 (gramC g))
 have HG := Lib.hid hg
 obtain ⟨b, hb⟩ : ∃ b, b = checkB g := ⟨_, rfl⟩
 have HBb := Lib.hid hb
 rw [← hb] at HC
 have HH := Lib.hid (fun h W hW => H (hb.symm.trans h) W hW)
 clear hf hg hB1 hb H
 unfold gramV gramC errI at *
 go_enter Tryz.func45, Tryz.ntmps45
 go_wp2_with fail
 refine HC.out.mono ?_
 rintro e w3 ⟨rfl, hB3⟩
 have HB3 := Lib.hid (HB.out.trans (hB3.mono HB.out.size))
 have HK3 := Lib.hid (HK.out.below hB3 HK.out.lt)
 clear hB3 HC
 cases b with
 | false =>
  rw [if_neg (by decide)]
  go_wp2
  go_ret2
  exact ⟨HB3.out, .inl ⟨HBb.out.symm, rfl⟩⟩
 | true =>
  rw [if_pos rfl]
  have HC2 := Lib.hid (HH.out rfl w3 (HG.out.below HB3.out))
  obtain ⟨c0, c1, c2, c3, c4⟩ := (show Blk w3 w.heap.size 27 (gramC g) from HK3.out).gram
  have l3 := HK3.out.lt
  clear HH
  go_wp2_with fail
  refine HC2.out.mono ?_
  rintro e w4 ⟨M, B, hR, rfl, hBl, hk, hB4⟩
  have HR := Lib.hid hR
  have HBl : Hid (w.heap.size ≤ B) := Lib.hid (Nat.le_trans HB3.out.size hBl)
  have HKk := Lib.hid hk
  have HB4 := Lib.hid (HB3.out.trans (hB4.mono HB3.out.size))
  clear hR hBl hk hB4 HC2
  go_wp2
  go_ret2
  exact ⟨HB4.out, .inr ⟨HBb.out.symm, M, B, HR.out, rfl, HBl.out, HKk.out⟩⟩

set_option maxRecDepth 100000 in
set_option maxHeartbeats 1000000 in
theorem Nullable_any (g : GramM) (hf : FitG g) (w : World) (hg : GIn w g) : Calls Tryz.prog 15 #[gramV g] w (TellPost w g (NullP g)) := by
 have hB1 : Below w.heap.size w (w.alloc (.cells (gramC g) 27)) := (Below.refl _ _).alloc (Nat.le_refl _) _
 have HC := Lib.hid (answerB_any g hf 48 (fun _ _ => by kernel_rfl) (NullP g) _ (hg.below hB1) (fun h W hW => nullable_any g (mayB_of h) hf.fit W hW))
 have HB := Lib.hid hB1
 clear hf hg hB1
 unfold gramV gramC at *
 go_enter Tryz.func15, Tryz.ntmps15
 go_wp2_with fail
 refine HC.out.mono ?_
 rintro e w3 ⟨hB3, ⟨hc, rfl⟩ | ⟨hc, M, B, hR, rfl, hBl, hk⟩⟩
 ·have HB3 := Lib.hid (HB.out.trans (hB3.mono HB.out.size))
  have Hc := Lib.hid hc
  clear hB3 hc HC
  go_wp2
  go_ret2
  exact ⟨HB3.out, .inl ⟨Hc.out, rfl⟩⟩
 ·have HB3 := Lib.hid (HB.out.trans (hB3.mono HB.out.size))
  have Hc := Lib.hid hc
  have HR := Lib.hid hR
  have HBl : Hid (w.heap.size ≤ B) := Lib.hid (Nat.le_trans HB.out.size hBl)
  have HK := Lib.hid hk
  clear hB3 hc HC hR hBl hk
  go_wp2
  go_ret2
  exact ⟨HB3.out, .inr ⟨Hc.out, M, B, HR.out, rfl, HBl.out, HK.out⟩⟩
end Go.Proofs.YtodnlcbnbkkanaaGreatDoor
end
section
namespace Go.Proofs.YtodnlcbnbkkanaaGreatDoor
open Go Go.RowKit

def IntsPost (w : World) (g : GramM) (e : Ending) (w' : World) : Prop := ∃ (S : List Int) (B c : Nat), ShortP g S ∧ e = .returned (.slice (some ⟨B, 0, none⟩) S.length c) ∧ w.heap.size ≤ B ∧ RowInt w' (some ⟨B, 0, none⟩) S ∧ Below w.heap.size w w'

theorem cellsI (S : List Int) : cellsL intC S = S.map (Value.int .i64) := by
 unfold cellsL intC
 induction S with
 | nil => rfl
 | cons x r ih => simp only [List.flatMap_cons, List.map_cons, ih]; rfl
theorem arrL_cells {S : List Int} {W : World} {B : Nat} (h : Blk W B 127 (ints (arrL S))) : ∀ j u, (cellsL intC S)[j]? = some u → W.cell? ((⟨B, 0, none⟩ : Addr).add j) = some u := by
 intro j u hj
 rw [cellsI] at hj
 rw [add_off, Nat.zero_add, h.cell]
 have hjl : j < S.length := by have := (List.getElem?_eq_some_iff.1 hj).1; simpa using this
 unfold ints arrL
 rw [List.getElem?_toArray, List.map_append, List.getElem?_append_left (by simpa using hjl)]
 exact hj

set_option maxRecDepth 100000 in
set_option maxHeartbeats 4000000 in
theorem f59_any (g : GramM) (hm : MayB g) (hs : MaySet g) (w : World) (hg : GIn w g) : Calls Tryz.prog 59 #[gramV g] w (IntsPost w g) := by
 obtain ⟨i3, ti3, tz3, ts3, tb3⟩ := info_parts Tryz.info3
 have hB1 : Below w.heap.size w (w.alloc (.cells (gramC g) 27)) := (Below.refl _ _).alloc (Nat.le_refl _) _
 have HC := Lib.hid (shortest_any g hm hs _ (hg.below hB1))
 have HB := Lib.hid hB1
 have HK := Lib.hid (Blk.new w 27 (gramC g))
 have hn1 := hm.sorts1
 have hn2 := hm.sorts2
 obtain ⟨n, hn⟩ : ∃ n, n = g.sorts.length := ⟨_, rfl⟩
 have HN := Lib.hid hn
 clear hm hs hg hB1
 unfold gramV gramC at *
 rw [← hn] at HC HB HK hn1 hn2 ⊢
 clear hn
 go_enter Tryz.func59, Tryz.ntmps59
 go_wp2_with fail
 refine HC.out.mono ?_
 rintro e w3 ⟨S, B, hS, rfl, hBl, hk, hB3⟩
 have HS := Lib.hid hS
 have hSl : S.length = n := by rw [hS.1, HN.out]
 have HA := Lib.hid hk
 have HB3 := Lib.hid (HB.out.trans (hB3.mono HB.out.size))
 have HK3 := Lib.hid (HK.out.below hB3 HK.out.lt)
 have lB := hk.lt
 have hBl2 := Nat.le_trans HB.out.size hBl
 have HSl := Lib.hid hSl
 clear hS hk hB3 HC HK hBl hSl
 go_wp2_with fail
 refine wp_region_still_tail 6 (by kernel_rfl) (by kernel_rfl) ?_
 show wpStill _ _ (World.drew w3) _ _ _
 obtain ⟨W, hW⟩ : ∃ W, W = w3.drew := ⟨_, rfl⟩
 rw [← hW]
 have HW := Lib.hid hW
 have HAW : Hid (Blk W B 127 (ints (arrL S))) := Lib.hid (by rw [hW]; exact HA.out)
 have HKW : Hid (Blk W w.heap.size 27 #[.slice g.sa n g.sc, .slice g.pa g.prods.length g.pc, .int .i64 g.start, .slice g.fa g.forbid.length g.fc, .slice g.wa g.follow.length g.wc]) := Lib.hid (by rw [hW]; exact HK3.out)
 have HBW : Hid (Below w.heap.size w W) := Lib.hid (by rw [hW]; exact HB3.out.drew)
 have c0 := HKW.out.cell 0
 have l0 := HKW.out.lt
 have lB := HAW.out.lt
 clear hW HA HK3 HB3
 have z1 : (n : Int) ≤ 1000 := by omega
 have z0 : (0 : Int) ≤ (n : Int) := by omega
 simp only [List.take_succ_cons, List.take_zero, List.drop_succ_cons, List.drop_zero]
 repeat still_step
 refine wpStill_nil ?_
 show wpList _ _ _ _ _ (World.drew w3)
 rw [← HW.out]
 clear HW
 have hown : W.ownsRow w.heap.size 3 1 (.slice none 0 0) 0 [] := ⟨rfl, .inl ⟨rfl, rfl⟩⟩
 have HOw := Lib.hid hown
 clear hown
 have hsz : w.heap.size ≤ W.heap.size := HBW.out.size
 have HSz := Lib.hid hsz
 clear hsz
 go_wp2_with (at_builtin; (refine wpList_append_own W rfl (.const (.slice none 0 0)) (.tmp 11) 48 rfl w.heap.size 3 i3 _ 1 8 Tryz.underlying48 ti3 tz3 ts3 tb3 rfl (by omega) _ 0 [] rfl HOw.out ⟨B, 0, none⟩ n 1000 (cellsL intC S) rfl (by rw [cellsI, List.length_map, HSl.out, Nat.mul_one]) (arrL_cells HAW.out) (fun u hu => ?_) ?_ ?_ HSz.out (fun v' w' h1 h2 _ => ?_)))
 ·rw [cellsI] at hu
  obtain ⟨z, _, rfl⟩ := List.mem_map.1 hu
  rfl
 ·unfold maxLen; omega
 ·omega
 ·rw [Nat.zero_add, List.nil_append] at h1
  have hB : Below w.heap.size w w' := own_fin HOw.out HBW.out (Nat.le_refl _) h2
  have h1' : w'.ownsRow w.heap.size 3 1 v' S.length (cellsL intC S) := by rw [HSl.out]; exact h1
  obtain ⟨a', c', hv, hr⟩ := own_row (G := NoG) (cs := intC) (fun _ => rfl) h1' (fun _ _ => trivial)
  obtain ⟨a2, c2, hv2, hg2, _⟩ := own_slice h1'
  rw [hv] at hv2
  obtain ⟨g2, he, hge⟩ := hg2 0 (by rw [HSl.out]; omega)
  have ha : a' = some ⟨g2, 0, none⟩ := by rw [← he]; simp only [Value.slice.injEq] at hv2; exact hv2.1
  subst ha
  have HR := Lib.hid hr
  have HBw := Lib.hid hB
  subst hv
  clear h1 h1' h2 hB hr hv2 hg2
  go_wp2
  go_ret
  exact ⟨S, g2, c', HS.out, rfl, hge, HR.out, HBw.out⟩
def ShortTell (w : World) (g : GramM) (e : Ending) (w' : World) : Prop :=
 Below w.heap.size w w' ∧ ((checkB g = false ∧ e = .returned (.tuple #[.slice none 0 0, .int .i64 160])) ∨ (checkB g = true ∧ ∃ (S : List Int) (B c : Nat), ShortP g S ∧ e = .returned (.tuple #[.slice (some ⟨B, 0, none⟩) S.length c, .int .i64 0]) ∧ w.heap.size ≤ B ∧ RowInt w' (some ⟨B, 0, none⟩) S))

set_option maxRecDepth 100000 in
set_option maxHeartbeats 4000000 in
theorem answerI_any (g : GramM) (hf : FitG g) (w : World) (hg : GIn w g) :
  Calls Tryz.prog 58 #[gramV g, .func (.func 59) #[] #[]] w (ShortTell w g) := by
 have hB1 : Below w.heap.size w (w.alloc (.cells (gramC g) 27)) := (Below.refl _ _).alloc (Nat.le_refl _) _
 have HC := Lib.hid (check_any g _ (hg.below hB1) hf)
 have HB := Lib.hid hB1
 have HK := Lib.hid (Blk.new w 27 (gramC g))
 have HG := Lib.hid hg
 obtain ⟨b, hb⟩ : ∃ b, b = checkB g := ⟨_, rfl⟩
 have HBb := Lib.hid hb
 rw [← hb] at HC
 have HH := Lib.hid (fun h W hW => f59_any g (mayB_of (hb.symm.trans h)) (maySet_of (hb.symm.trans h)) W hW)
 clear hf hg hB1 hb
 unfold gramV gramC errI at *
 go_enter Tryz.func58, Tryz.ntmps58
 go_wp2_with fail
 refine HC.out.mono ?_
 rintro e w3 ⟨rfl, hB3⟩
 have HB3 := Lib.hid (HB.out.trans (hB3.mono HB.out.size))
 have HK3 := Lib.hid (HK.out.below hB3 HK.out.lt)
 clear hB3 HC
 cases b with
 | false =>
  rw [if_neg (by decide)]
  go_wp2
  go_ret2
  exact ⟨HB3.out, .inl ⟨HBb.out.symm, rfl⟩⟩
 | true =>
  rw [if_pos rfl]
  have HC2 := Lib.hid (HH.out rfl w3 (HG.out.below HB3.out))
  obtain ⟨c0, c1, c2, c3, c4⟩ := (show Blk w3 w.heap.size 27 (gramC g) from HK3.out).gram
  have l3 := HK3.out.lt
  clear HH
  go_wp2_with fail
  refine HC2.out.mono ?_
  rintro e w4 ⟨S, B, c, hR, rfl, hBl, hk, hB4⟩
  have HR := Lib.hid hR
  have HBl : Hid (w.heap.size ≤ B) := Lib.hid (Nat.le_trans HB3.out.size hBl)
  have HKk := Lib.hid hk
  have HB4 := Lib.hid (HB3.out.trans (hB4.mono HB3.out.size))
  clear hR hBl hk hB4 HC2
  go_wp2
  go_ret2
  exact ⟨HB4.out, .inr ⟨HBb.out.symm, S, B, c, HR.out, rfl, HBl.out, HKk.out⟩⟩

set_option maxRecDepth 100000 in
set_option maxHeartbeats 1000000 in
theorem Shortest_any (g : GramM) (hf : FitG g) (w : World) (hg : GIn w g) : Calls Tryz.prog 28 #[gramV g] w (ShortTell w g) := by
 have hB1 : Below w.heap.size w (w.alloc (.cells (gramC g) 27)) := (Below.refl _ _).alloc (Nat.le_refl _) _
 have HC := Lib.hid (answerI_any g hf _ (hg.below hB1))
 have HB := Lib.hid hB1
 clear hf hg hB1
 unfold gramV gramC at *
 go_enter Tryz.func28, Tryz.ntmps28
 go_wp2_with fail
 refine HC.out.mono ?_
 rintro e w3 ⟨hB3, ⟨hc, rfl⟩ | ⟨hc, S, B, c, hR, rfl, hBl, hk⟩⟩
 ·have HB3 := Lib.hid (HB.out.trans (hB3.mono HB.out.size))
  have Hc := Lib.hid hc
  clear hB3 hc HC
  go_wp2
  go_ret2
  exact ⟨HB3.out, .inl ⟨Hc.out, rfl⟩⟩
 ·have HB3 := Lib.hid (HB.out.trans (hB3.mono HB.out.size))
  have Hc := Lib.hid hc
  have HR := Lib.hid hR
  have HBl : Hid (w.heap.size ≤ B) := Lib.hid (Nat.le_trans HB.out.size hBl)
  have HK := Lib.hid hk
  clear hB3 hc HC hR hBl hk
  go_wp2
  go_ret2
  exact ⟨HB3.out, .inr ⟨Hc.out, S, B, c, HR.out, rfl, HBl.out, HK.out⟩⟩
end Go.Proofs.YtodnlcbnbkkanaaGreatDoor
end
section
namespace Go.Proofs.YtodnlcbnbkkanaaGreatDoor
open Go Go.RowKit Go.Maps Go.WideMaps

def leadV (p : Int × Int) : Value := .agg #[.int .i64 p.1, .int .i64 p.2]
theorem key115 : Keyed Tryz.prog 115 := Keyed.of_law (deep_law_gate laidOut (of_decide_eq_true (by kernel_rfl)) (of_decide_eq_true (by kernel_rfl)) (by kernel_rfl) (by kernel_rfl))
theorem fields115 : (Tryz.prog.fieldsOf 115).toList.map (fun f => (f.name, f.type, f.offset)) = [("from", 3, 0), ("to", 3, 1)] := by kernel_rfl
theorem cellsOf115 : Tryz.prog.cellsOf 115 = 2 := by kernel_rfl
theorem keyType115 : Tryz.prog.keyType 115 = true := by kernel_rfl
def leadK (p : Int × Int) : Lit := .string (keyBytes [.int .i64 p.1, .int .i64 p.2])
theorem under115 : Tryz.prog.underlying 115 = some (.struct (Tryz.prog.fieldsOf 115)) := by kernel_rfl
theorem key_lead (p : Int × Int) (h1 : I64 p.1) (h2 : I64 p.2) : keyOf Tryz.prog 115 (leadV p) = some (leadK p) := by
 have hsz : ∃ m, Tryz.prog.types.size = m + 1 := ⟨Tryz.prog.types.size - 1, by have : 0 < Tryz.prog.types.size := of_decide_eq_true (by kernel_rfl); omega⟩
 obtain ⟨m, hm⟩ := hsz
 have h0 := under115
 have hf := fields115
 have hfm : (leadV p).formed Tryz.prog 115 = true := by simp [leadV, Value.formed, h0, cellsOf115]
 unfold keyOf
 rw [h0, keyType115, hfm, hm]
 unfold Program.keyLits
 simp only [h0, cellsOf115]
 have hall : (Tryz.prog.fieldsOf 115).all (fun x => x.name != "_") = true := by kernel_rfl
 rw [hall]
 revert hf
 generalize (Tryz.prog.fieldsOf 115).toList = fs
 intro hf
 obtain ⟨f0, fs0, rfl⟩ : ∃ f l, fs = f :: l := by cases fs with | nil => simp at hf | cons f l => exact ⟨f, l, rfl⟩
 obtain ⟨f1, fs1, rfl⟩ : ∃ f l, fs0 = f :: l := by cases fs0 with | nil => simp at hf | cons f l => exact ⟨f, l, rfl⟩
 obtain rfl : fs1 = [] := by cases fs1 with | nil => rfl | cons f l => simp at hf
 simp only [List.map_cons, List.map_nil, List.cons.injEq, Prod.mk.injEq, and_true] at hf
 obtain ⟨⟨_, t0, o0⟩, ⟨_, t1, o1⟩⟩ := hf
 simp only [Bool.and_self, if_true, leadV, Value.cells, List.mapM_cons, List.mapM_nil, t0, t1, o0, o1, cellsOf3]
 simp [keyLits3 m _ h1, keyLits3 m _ h2, leadK]
set_option maxRecDepth 100000 in
theorem keyLits3_inv (d : Nat) (v : Value) (ls : List Lit) (h : Tryz.prog.keyLits (d + 1) 3 [v] = some ls) : ∃ n : Int, v = .int .i64 n ∧ I64 n := by
 unfold Program.keyLits at h
 rw [Tryz.underlying3] at h
 cases v <;> simp at h
 rename_i q n
 obtain ⟨⟨rfl, hw⟩, _⟩ := h
 exact ⟨n, rfl, i64_rng hw⟩
theorem formed115 {v : Value} (h : v.formed Tryz.prog 115 = true) : ∃ a b, v = .agg #[a, b] := by
 cases v <;> simp [Value.formed, under115] at h
 rename_i cs
 replace h := h.trans cellsOf115
 obtain ⟨cs⟩ := cs
 match cs, h with
 | [a, b], _ => exact ⟨a, b, rfl⟩
theorem leadV_inj {p q : Int × Int} (h : leadV p = leadV q) : p = q := by
 obtain ⟨a, b⟩ := p
 obtain ⟨a', b'⟩ := q
 unfold leadV at h
 injection h with h
 simpa using h
set_option maxRecDepth 100000 in
theorem lead_inv {v : Value} {l : Lit} (h : keyOf Tryz.prog 115 v = some l) : ∃ p : Int × Int, v = leadV p ∧ l = leadK p ∧ I64 p.1 ∧ I64 p.2 := by
 have hsz : ∃ m, Tryz.prog.types.size = m + 1 := ⟨Tryz.prog.types.size - 1, by have : 0 < Tryz.prog.types.size := of_decide_eq_true (by kernel_rfl); omega⟩
 obtain ⟨m, hm⟩ := hsz
 have h0 := h
 have hf := fields115
 unfold keyOf at h
 rw [under115, keyType115] at h
 cases hfo : v.formed Tryz.prog 115 with
 | false => rw [hfo] at h; simp at h
 | true =>
  rw [hfo, hm] at h
  obtain ⟨a, b, rfl⟩ := formed115 hfo
  simp only [Bool.and_self, if_true, Option.map_eq_some_iff] at h
  obtain ⟨ls, h1, _⟩ := h
  unfold Program.keyLits at h1
  simp only [under115, cellsOf115] at h1
  have hall : (Tryz.prog.fieldsOf 115).all (fun x => x.name != "_") = true := by kernel_rfl
  rw [hall] at h1
  revert hf h1
  generalize (Tryz.prog.fieldsOf 115).toList = fs
  intro hf h1
  obtain ⟨f0, fs0, rfl⟩ : ∃ f l, fs = f :: l := by cases fs with | nil => simp at hf | cons f l => exact ⟨f, l, rfl⟩
  obtain ⟨f1, fs1, rfl⟩ : ∃ f l, fs0 = f :: l := by cases fs0 with | nil => simp at hf | cons f l => exact ⟨f, l, rfl⟩
  obtain rfl : fs1 = [] := by cases fs1 with | nil => rfl | cons f l => simp at hf
  simp only [List.map_cons, List.map_nil, List.cons.injEq, Prod.mk.injEq, and_true] at hf
  obtain ⟨⟨_, t0, o0⟩, ⟨_, t1, o1⟩⟩ := hf
  simp only [if_true, Value.cells, List.mapM_cons, List.mapM_nil, t0, t1, o0, o1, cellsOf3] at h1
  simp at h1
  obtain ⟨x0, k0⟩ : ∃ x, Tryz.prog.keyLits (m + 1) 3 [a] = some x := by
   cases k : Tryz.prog.keyLits (m + 1) 3 [a] with
   | none => rw [k] at h1; simp at h1
   | some x => exact ⟨x, rfl⟩
  obtain ⟨x1, k1⟩ : ∃ x, Tryz.prog.keyLits (m + 1) 3 [b] = some x := by
   cases k : Tryz.prog.keyLits (m + 1) 3 [b] with
   | none => rw [k0, k] at h1; simp at h1
   | some x => exact ⟨x, rfl⟩
  obtain ⟨a, rfl, ra⟩ := keyLits3_inv _ _ _ k0
  obtain ⟨b, rfl, rb⟩ := keyLits3_inv _ _ _ k1
  refine ⟨(a, b), rfl, ?_, ra, rb⟩
  have h2 := key_lead (a, b) ra rb
  unfold leadV at h2
  rw [h0] at h2
  exact Option.some.inj h2
theorem leadK_inj {p q : Int × Int} (hp : I64 p.1 ∧ I64 p.2) (hq : I64 q.1 ∧ I64 q.2) (h : leadK p = leadK q) : p = q := by
 have h1 := key_lead p hp.1 hp.2
 have h2 := key_lead q hq.1 hq.2
 rw [← h] at h2
 exact leadV_inj (key115.inj h1 h2)
theorem leadK_key {p : Int × Int} (hp : I64 p.1 ∧ I64 p.2) : WideAt.IsKeyLit (leadK p) := key115.key (key_lead p hp.1 hp.2)

def P64 (p : Int × Int) : Prop := I64 p.1 ∧ I64 p.2
def MapL (w : World) (b n : Nat) (K : Int × Int → Prop) : Prop := ∃ D : DataW Unit, w.ownsMap Tryz.prog 115 unitE b n D ∧ (∀ p, P64 p → (has D (leadK p) = true ↔ K p)) ∧ ∀ p, K p → P64 p
theorem MapL.made (w : World) : MapL (w.alloc (.map #[] 0)) w.heap.size 0 (fun _ => False) :=
 ⟨.map [], World.ownsMap_made w _ _ _, fun p _ => by simp [has], fun p h => h.elim⟩
theorem MapL.lt {w : World} {b n : Nat} {K : Int × Int → Prop} (h : MapL w b n K) : b < w.heap.size := by
 obtain ⟨D, h, _⟩ := h; exact h.lt
theorem MapL.below {w w' : World} {b n N : Nat} {K : Int × Int → Prop} (h : MapL w b n K) (hB : Below N w w') (hb : b < N) : MapL w' b n K := by
 obtain ⟨D, ⟨es, clock, e1, e2⟩, h1⟩ := h; exact ⟨D, ⟨es, clock, (hB.block b hb).trans e1, e2⟩, h1⟩
theorem MapL.of_iff {w : World} {b n : Nat} {K K' : Int × Int → Prop} (h : MapL w b n K) (hk : ∀ s, K s ↔ K' s) : MapL w b n K' := by
 have : K = K' := funext fun s => propext (hk s)
 subst this; exact h
theorem putL_has {D : DataW Unit} (hD : IsMap D) {K : Int × Int → Prop} (x : Int × Int) (hx : P64 x) (hh : ∀ p, P64 p → (has D (leadK p) = true ↔ K p)) (d : DataW Unit) (p : Int × Int) (hp : P64 p) : has (D.put (leadK x) d) (leadK p) = true ↔ (p = x ∨ K p) := by
 by_cases e : p = x
 ·subst e; simp [has_put_same hD (leadK_key hp)]
 ·rw [has_put_other (fun e2 => e (leadK_inj hp hx e2))]
  simp [e, hh p hp]

variable {ops : Array Oper} {rest : List Oper} {o : Oper} {a : Act} {Q : Exit → Act → World → Prop}
theorem wpList_putL (w : World) (hg : o.guard = none) (m x v : Operand) (hop : o.op = Op.mapUpdate 112 m x v) (b n : Nat) (K : Int × Int → Prop)
  (hm : a.eval m = .map (some b)) (h : MapL w b n K) (hn : n < maxLen) (p : Int × Int) (hp : P64 p) (hx : a.eval x = leadV p) (hv : a.eval v = .agg #[])
  (hK : ∀ w', MapL w' b (n + 1) (fun t => t = p ∨ K t) → w.grownBy w' (some b) → wpList Tryz.prog ops Q rest (a.put o.dst undef) w') :
  wpList Tryz.prog ops Q (o :: rest) a w := by
 obtain ⟨D, hown, hh, hk⟩ := h
 exact wpList_mapUpdate_own w hg m x v 112 hop 115 143 key115 Tryz.underlying112 unitE b n D hm hown hn _ _ _ hx hv (key_lead p hp.1 hp.2) (.agg []) [] unitElem_mk fun w' h1 h2 => hK w' ⟨_, h1, fun t ht => putL_has hown.isMap p hp hh _ t ht, fun t ht => by
  rcases ht with rfl | ht
  ·exact hp
  ·exact hk t ht⟩ h2

def RangeL (w : World) (b r n : Nat) (K L : Int × Int → Prop) (cnt : Nat) : Prop :=
 ∃ (D : DataW Unit) (left : Lit → Bool), w.ranges Tryz.prog 115 unitE b r n D left cnt ∧ (∀ p, P64 p → (has D (leadK p) = true ↔ K p)) ∧ (∀ p, K p → P64 p) ∧ (∀ p, P64 p → (left (leadK p) = true ↔ L p)) ∧ ∀ p, L p → P64 p
theorem RangeL.kept {w w' : World} {b r n cnt : Nat} {K L : Int × Int → Prop} {row : Option Nat} (h : RangeL w b r n K L cnt) (hg : w.grownBy w' row) (hb : some b ≠ row) (hr : some r ≠ row) : RangeL w' b r n K L cnt := by
 obtain ⟨D, left, h, h1⟩ := h; exact ⟨D, left, h.kept hg hb hr, h1⟩
theorem RangeL.alloc {w : World} {b r n cnt : Nat} {K L : Int × Int → Prop} (h : RangeL w b r n K L cnt) (o : Obj) : RangeL (w.alloc o) b r n K L cnt := h.kept (World.grownBy_alloc w o none) (by simp) (by simp)
theorem RangeL.left_eq {w : World} {b r n cnt : Nat} {K L : Int × Int → Prop} (h : RangeL w b r n K L cnt) : w.rangeLeft b r = cnt := by
 obtain ⟨D, left, h, _⟩ := h; exact h.left_eq
theorem wpList_rangeL (w : World) (hg : o.guard = none) (m : Operand) (hop : o.op = Op.range 112 m) (b n : Nat) (K : Int × Int → Prop) (hm : a.eval m = .map (some b)) (h : MapL w b n K)
  (hK : ∀ w' cnt, RangeL w' b w.heap.size n K K cnt → cnt ≤ n → w.grownBy w' none → w'.heap.size = w.heap.size + 1 → wpList Tryz.prog ops Q rest (a.put o.dst (.pointer (some ⟨w.heap.size, 0, none⟩))) w') :
  wpList Tryz.prog ops Q (o :: rest) a w := by
 obtain ⟨D, hown, hh, hk⟩ := h
 exact wpList_range_own w hg m 112 hop 115 143 key115 Tryz.underlying112 unitE b n D hm hown fun w' r1 r2 r3 => hK w' _ ⟨D, has D, r1, hh, hk, hh, hk⟩ hown.size_le r2 r3
theorem wpList_nextL (w : World) (hg : o.guard = none) (it : Operand) (hop : o.op = Op.next it false) (b r n cnt : Nat) (K L : Int × Int → Prop) (hit : a.eval it = .pointer (some ⟨r, 0, none⟩)) (h : RangeL w b r n K L cnt)
  (hDone : cnt = 0 → (∀ s, ¬ L s) → wpList Tryz.prog ops Q rest (a.put o.dst (.tuple #[.bool false])) w)
  (hMore : ∀ (p : Int × Int) (w' : World) (cnt' : Nat), L p → K p → RangeL w' b r n K (fun t => L t ∧ t ≠ p) cnt' → cnt' < cnt → w.grownBy w' (some r) → w'.heap.size = w.heap.size →
   (Instr.entry (.pointer (some ⟨r, 0, none⟩))).run Tryz.prog w' = .ok (.tuple #[leadV p, .agg #[]]) w' → wpList Tryz.prog ops Q rest (a.put o.dst (.tuple #[.bool true, leadV p, .agg #[]])) w') :
  wpList Tryz.prog ops Q (o :: rest) a w := by
 obtain ⟨D, left, hr, hh, hk, hl, hlk⟩ := h
 refine wpList_next_ranges w hg it hop 115 key115 unitE leadV (fun _ : Unit => .agg #[]) (fun key kl hk => ⟨_, (lead_inv hk).choose_spec.1⟩) (fun v y hv => ⟨(), (unitElem_inv hv).1⟩) b r n D left cnt hit hr (fun h0 h1 => hDone h0 fun s hs => ?_) fun p c kl y w' cnt' hkl hleft hy hat2 hr2 hlt hgr hsz hen => ?_
 ·have := (hl s (hlk s hs)).2 hs
  rw [h1] at this; cases this
 ·obtain ⟨p', e1, rfl, hp1, hp2⟩ := lead_inv hkl
  have e2 := leadV_inj e1
  subst e2
  have hKs : K p := (hh p ⟨hp1, hp2⟩).1 (has_true_of_atKey hat2)
  refine hMore p w' cnt' ((hl p ⟨hp1, hp2⟩).1 hleft) hKs ⟨D, _, hr2, hh, hk, fun t ht => ?_, fun t ht => hlk t ht.1⟩ hlt hgr hsz hen
  by_cases e : t = p
  ·subst e; simp [WideAt.sameKey_self (leadK_key (p := t) ht)]
  ·have : (leadK t).sameKey (leadK p) = false := by
    cases h3 : (leadK t).sameKey (leadK p) with
    | false => rfl
    | true => exact absurd (leadK_inj ht ⟨hp1, hp2⟩ (WideAt.sameKey_eq h3)) e
   simp [this, e, hl t ht]
end Go.Proofs.YtodnlcbnbkkanaaGreatDoor
end
section
namespace Go.Proofs.YtodnlcbnbkkanaaGreatDoor
open Go Go.RowKit Go.Maps

def AloneP (M : List Bool) (x : ProdM) (but : Nat) : Prop := ∀ (i : Nat) (s : SymM), x.right[i]? = some s → i ≠ but → filledQ M s = false
def AlonePost (w : World) (M : List Bool) (x : ProdM) (but : Nat) (e : Ending) (w' : World) : Prop := ∃ b : Bool, e = .returned (.bool b) ∧ (b = true ↔ AloneP M x but) ∧ Below w.heap.size w w'

set_option maxRecDepth 100000 in
set_option maxHeartbeats 4000000 in
theorem isAlone_any (x : ProdM) (but : Nat) (B : Nat) (M : List Bool) (w : World) (hb : Blk w B 4 (bools M)) (hM : M.length ≤ 1000) (hx : ProdIn w x) (hr : x.right.length ≤ 30) (hbut : but ≤ 30) (hs : ∀ s, s ∈ x.right → s.kind ≠ 0 → ∃ k : Nat, s.sort = k ∧ k < M.length) :
  Calls Tryz.prog 101 #[prodV x, .int .i64 but, .slice (some ⟨B, 0, none⟩) M.length M.length] w (AlonePost w M x but) := by
 have HA := Lib.hid hb
 have HRow : Hid (RowSym w x.ra x.right) := Lib.hid hx
 have HS := Lib.hid hs
 have lB := hb.lt
 obtain ⟨ra, hra⟩ : ∃ ra, ra = x.ra := ⟨_, rfl⟩
 obtain ⟨n, hn⟩ : ∃ n, n = x.right.length := ⟨_, rfl⟩
 have HN := Lib.hid hn
 rw [← hra] at HRow
 rw [← hn] at hr
 obtain ⟨m, hm⟩ : ∃ m, m = M.length := ⟨_, rfl⟩
 have HM := Lib.hid hm
 rw [← hm] at hM ⊢
 have hB1 : Hid (Below w.heap.size w (w.alloc (.cells (prodC x) 65))) := (Below.refl _ _).alloc (Nat.le_refl _) _
 have HE : Hid (prodC x = #[.int .i64 x.left, .slice ra n x.rc, .string x.cons, .int .i64 x.role, .bool x.prefer, .bool x.avoid, .int .i64 x.frm]) := Lib.hid (by rw [hra, hn]; rfl)
 unfold prodV
 rw [HE.out] at hB1 ⊢
 clear hb hx hs hra hn hm HE
 go_enter Tryz.func101, Tryz.ntmps101
 go_wp2
 go_loopw [12] (fun vj wr => ∃ (j : Nat), vj = .int .i64 j ∧ j ≤ n ∧ Hid (Below w.heap.size w wr) ∧ Hid (∀ (i : Nat) (s : SymM), i < j → x.right[i]? = some s → i ≠ but → filledQ M s = false)) (fun vj _ => n - (intOf vj).toNat)
 case atStart => exact ⟨0, rfl, Nat.zero_le _, hB1, Lib.hid (fun i s hi => by omega)⟩
 case round =>
  clear hB1
  obtain ⟨j, rfl, hj, HB, HQ⟩ := hrel
  by_cases hlt : j < n
  ·obtain ⟨s, hs⟩ : ∃ s, x.right[j]? = some s := ⟨_, List.getElem?_eq_getElem (by rw [← HN.out]; exact hlt)⟩
   obtain ⟨b1, o1, rfl, hb1, hc1, _⟩ := HRow.out j s hs
   have hc1 := hc1.below HB.out hb1
   have hb1' := Nat.lt_of_lt_of_le hb1 HB.out.size
   obtain ⟨s0, s1, s2, s3, s4, s5⟩ := Sym_at hc1
   have z1 : (j : Int) < (n : Int) := by omega
   have z0 : (0 : Int) ≤ (j : Int) := by omega
   have HSk := Lib.hid (HS.out s (List.mem_of_getElem? hs))
   have HX := Lib.hid hs
   have HNext : Hid (j = but ∨ filledQ M s = false → ∀ (i : Nat) (t : SymM), i < j + 1 → x.right[i]? = some t → i ≠ but → filledQ M t = false) := Lib.hid (fun h i t hi ht hne => by
    by_cases e : i = j
    ·subst e; rw [HX.out] at ht; cases ht
     rcases h with h | h
     ·exact absurd h hne
     ·exact h
    ·exact HQ.out i t (by omega) ht hne)
   have HBad : Hid (j ≠ but → filledQ M s = true → ¬ AloneP M x but) := Lib.hid (fun h1 h2 h => by rw [h j s HX.out h1] at h2; cases h2)
   have HAr := Lib.hid (HA.out.below HB.out lB)
   have HBn : Hid (Below w.heap.size w (wr.alloc (.cells (symC s) 60))) := Lib.hid (HB.out.alloc HB.out.size _)
   have hbr : B < wr.heap.size := Nat.lt_of_lt_of_le lB HB.out.size
   clear hs hc1 HQ HX
   obtain ⟨sk, ss, so⟩ := s
   unfold symC at HBn
   dsimp only at *
   by_cases hjb : j = but
   ·subst hjb
    have HZ := Lib.hid (HNext.out (.inl rfl))
    clear HNext HBad HSk HAr
    go_wp2
    go_roundw
    case rel => exact ⟨j + 1, by go_num, by omega, HBn, HZ⟩
    case measure => simp [intOf]; omega
   ·have hjb2 : ((j : Int) == (but : Int)) = false := by simp; omega
    have hjb3 : ((j : Int) != (but : Int)) = true := by simp; omega
    have hjb4 : ¬ ((j : Int) = (but : Int)) := by omega
    have HJ := Lib.hid hjb
    clear hjb
    cases k0 : (sk == 0) with
    | true =>
     have HE := Lib.hid (HBad.out HJ.out (by unfold filledQ; rw [k0]; rfl))
     clear HNext HBad HSk HAr
     go_wp2
     go_ret
     exact ⟨false, rfl, ⟨fun h => (by cases h), fun h => absurd h HE.out⟩, HBn.out⟩
    | false =>
     obtain ⟨k, rfl, hk⟩ := HSk.out (by simpa using k0)
     have cA := HAr.out.cell k
     rw [bools_at M k hk] at cA
     obtain ⟨v, hv⟩ : ∃ v, v = lv M (k : Int) := ⟨_, rfl⟩
     rw [← hv] at cA
     have HV := Lib.hid hv
     have kz1 : (k : Int) < (m : Int) := by have := HM.out; omega
     have kz0 : (0 : Int) ≤ (k : Int) := by omega
     clear hv hk HSk HAr
     cases v with
     | true =>
      have HZ := Lib.hid (HNext.out (.inr (by unfold filledQ; rw [k0, ← HV.out]; rfl)))
      clear HNext HBad
      go_wp2
      go_roundw
      case rel => exact ⟨j + 1, by go_num, by omega, HBn, HZ⟩
      case measure => simp [intOf]; omega
     | false =>
      have HE := Lib.hid (HBad.out HJ.out (by unfold filledQ; rw [k0, ← HV.out]; rfl))
      clear HNext HBad
      go_wp2
      go_ret
      exact ⟨false, rfl, ⟨fun h => (by cases h), fun h => absurd h HE.out⟩, HBn.out⟩
  ·obtain rfl : j = n := by omega
   have HZ : Hid (AloneP M x but) := Lib.hid (fun i s hi hne => HQ.out i s (by have := (List.getElem?_eq_some_iff.1 hi).1; have := HN.out; omega) hi hne)
   clear HQ
   go_wp2
   go_ret
   exact ⟨true, rfl, ⟨fun _ => HZ.out, fun _ => rfl⟩, HB.out⟩
end Go.Proofs.YtodnlcbnbkkanaaGreatDoor
end
section
namespace Go.Proofs.YtodnlcbnbkkanaaGreatDoor
open Go Go.RowKit Go.Maps

def LeadX (g : GramM) (M : List Bool) (x : ProdM) (i : Nat) (p : Int × Int) : Prop := ∃ s, x.right[i]? = some s ∧ s.kind = 1 ∧ AloneP M x i ∧ p = (x.left, s.sort)
def LeadU (g : GramM) (M : List Bool) (l : List ProdM) (j i : Nat) (p : Int × Int) : Prop := ∃ (j' i' : Nat) (x : ProdM), l[j']? = some x ∧ (j' < j ∨ (j' = j ∧ i' < i)) ∧ LeadX g M x i' p
theorem LeadU.zero (g : GramM) (M : List Bool) (l : List ProdM) (p : Int × Int) : LeadU g M l 0 0 p ↔ False := ⟨fun ⟨j', i', x, _, h, _⟩ => by omega, fun h => h.elim⟩
theorem LeadU.next {g : GramM} {M : List Bool} {l : List ProdM} {j : Nat} {x : ProdM} (hx : l[j]? = some x) (p : Int × Int) : LeadU g M l j x.right.length p ↔ LeadU g M l (j + 1) 0 p := by
 constructor
 ·rintro ⟨j', i', y, h1, h2, h3⟩
  exact ⟨j', i', y, h1, by omega, h3⟩
 ·rintro ⟨j', i', y, h1, h2, h3⟩
  refine ⟨j', i', y, h1, ?_, h3⟩
  by_cases e : j' = j
  ·subst e
   rw [hx] at h1; cases h1
   obtain ⟨s, hs, _⟩ := h3
   exact .inr ⟨rfl, (List.getElem?_eq_some_iff.1 hs).1⟩
  ·exact .inl (by omega)
theorem LeadU.no {g : GramM} {M : List Bool} {l : List ProdM} {j i : Nat} {x : ProdM} (hx : l[j]? = some x) {s : SymM} (hs : x.right[i]? = some s) (h : s.kind ≠ 1 ∨ ¬ AloneP M x i) (p : Int × Int) : LeadU g M l j i p ↔ LeadU g M l j (i + 1) p := by
 constructor
 ·rintro ⟨j', i', y, h1, h2, h3⟩
  exact ⟨j', i', y, h1, by omega, h3⟩
 ·rintro ⟨j', i', y, h1, h2, h3⟩
  refine ⟨j', i', y, h1, ?_, h3⟩
  by_cases e : j' = j ∧ i' = i
  ·obtain ⟨rfl, rfl⟩ := e
   rw [hx] at h1; cases h1
   obtain ⟨t, ht, hk, ha, _⟩ := h3
   rw [hs] at ht; cases ht
   rcases h with h | h
   ·exact absurd hk h
   ·exact absurd ha h
  ·omega
theorem LeadU.yes {g : GramM} {M : List Bool} {l : List ProdM} {j i : Nat} {x : ProdM} (hx : l[j]? = some x) {s : SymM} (hs : x.right[i]? = some s) (hk : s.kind = 1) (ha : AloneP M x i) (p : Int × Int) : (p = (x.left, s.sort) ∨ LeadU g M l j i p) ↔ LeadU g M l j (i + 1) p := by
 constructor
 ·rintro (rfl | ⟨j', i', y, h1, h2, h3⟩)
  ·exact ⟨j, i, x, hx, .inr ⟨rfl, by omega⟩, s, hs, hk, ha, rfl⟩
  ·exact ⟨j', i', y, h1, by omega, h3⟩
 ·rintro ⟨j', i', y, h1, h2, h3⟩
  by_cases e : j' = j ∧ i' = i
  ·obtain ⟨rfl, rfl⟩ := e
   rw [hx] at h1; cases h1
   obtain ⟨t, ht, _, _, hp⟩ := h3
   rw [hs] at ht; cases ht
   exact .inl hp
  ·exact .inr ⟨j', i', y, h1, by omega, h3⟩

structure LJ (g : GramM) (w : World) (Bn b N : Nat) (M L : List Bool) (a : Option Addr) (c : Nat) (j i : Nat) (W : World) : Prop where
 bn : Blk W Bn 4 (bools M)
 own : OwnP N W a c (livL g L)
 low : Below w.heap.size w W
 hx : w.heap.size ≤ Bn ∧ Bn < b ∧ b < N ∧ N ≤ W.heap.size
 map : ∃ cnt, MapL W b cnt (LeadU g M (livL g L) j i) ∧ cnt ≤ j * 30 + i
section
variable {g : GramM} {w : World} {Bn b N : Nat} {M L : List Bool} {a : Option Addr} {c : Nat} {j i : Nat} {W V : World}
theorem LJ.below (h : LJ g w Bn b N M L a c j i W) (hB : Below W.heap.size W V) : LJ g w Bn b N M L a c j i V :=
 ⟨h.bn.below hB h.bn.lt, h.own.below hB (Nat.le_refl _), h.low.trans (hB.mono h.low.size), by have := h.hx; have := hB.size; omega, by
  obtain ⟨cnt, hm, hc⟩ := h.map
  exact ⟨cnt, hm.below hB hm.lt, hc⟩⟩
theorem LJ.same {j' i' : Nat} (h : LJ g w Bn b N M L a c j i W) (he : ∀ p, LeadU g M (livL g L) j i p ↔ LeadU g M (livL g L) j' i' p) (hc : j * 30 + i ≤ j' * 30 + i') : LJ g w Bn b N M L a c j' i' W :=
 ⟨h.bn, h.own, h.low, h.hx, by
  obtain ⟨cnt, hm, hc'⟩ := h.map
  exact ⟨cnt, hm.of_iff he, Nat.le_trans hc' hc⟩⟩
theorem LJ.put (h : LJ g w Bn b N M L a c j i W) {n : Nat} {K : Int × Int → Prop} (hg : W.grownBy V (some b)) (hm : MapL V b n K) {j' i' : Nat} (he : ∀ p, K p ↔ LeadU g M (livL g L) j' i' p) (hc : n ≤ j' * 30 + i') : LJ g w Bn b N M L a c j' i' V := by
 have hx := h.hx
 refine ⟨h.bn.kept hg (by simp; omega), ⟨?_, h.own.cap⟩, below_grown h.low hg (Nat.le_refl _) (by omega), by have := hg.size; omega, n, hm.of_iff he, hc⟩
 rcases h.own.row with h1 | ⟨B, cs, h1, h2, h3, h4⟩
 ·exact .inl h1
 ·exact .inr ⟨B, cs, h1, h2, h3.kept hg (by simp; omega), h4⟩
end

def LeadsPost (g : GramM) (w : World) (e : Ending) (w' : World) : Prop := ∃ (b cnt : Nat) (M L : List Bool), NullP g M ∧ Live g L ∧ e = .returned (.map (some b)) ∧ w.heap.size ≤ b ∧ MapL w' b cnt (LeadU g M (livL g L) (livL g L).length 0) ∧ cnt ≤ 30000 ∧ Below w.heap.size w w'

set_option maxRecDepth 100000 in
set_option maxHeartbeats 8000000 in
theorem leads_any (g : GramM) (hm : MayB g) (hf : Fit g) (w : World) (hg : GIn w g) : Calls Tryz.prog 76 #[gramV g] w (LeadsPost g w) := by
 have hB1 : Below w.heap.size w (w.alloc (.cells (gramC g) 27)) := (Below.refl _ _).alloc (Nat.le_refl _) _
 have HNul := Lib.hid (nullable_any g hm hf _ (hg.below hB1))
 have HLiv := Lib.hid (fun W (hW : Below w.heap.size w W) => living_any g hm hf W (hg.below hW))
 have HB := Lib.hid hB1
 have HK := Lib.hid (Blk.new w 27 (gramC g))
 have HMB := Lib.hid hm
 have HG := Lib.hid hg
 have hmm := @run_makeMap Tryz.prog
 clear hm hf hg hB1
 unfold gramV gramC at *
 go_enter Tryz.func76, Tryz.ntmps76
 go_wp2_with fail
 refine HNul.out.mono ?_
 rintro e w3 ⟨M, Bn, hM, rfl, hBl, hbk, hB3⟩
 have HM := Lib.hid hM
 have HK3 := Lib.hid (HK.out.below hB3 HK.out.lt)
 have hl3 : w.heap.size ≤ w3.heap.size := Nat.le_trans HB.out.size hB3.size
 have hB4 : Below w.heap.size w (w3.alloc (.map #[] 0)) := (HB.out.trans (hB3.mono HB.out.size)).alloc hl3 _
 have HM0 := Lib.hid (MapL.made w3)
 have HBN := Lib.hid (hbk.alloc (.map #[] 0))
 have HC2 := Lib.hid (HLiv.out _ hB4)
 have HB4 := Lib.hid hB4
 have hBn1 : w.heap.size ≤ Bn := Nat.le_trans HB.out.size hBl
 have hBn2 := hbk.lt
 have hKl := HK3.out.lt
 obtain ⟨d0, d1, d2, d3, d4⟩ := (show Blk w3 w.heap.size 27 (gramC g) from HK3.out).gram
 have hMl := hM.1
 have HMl := Lib.hid hMl
 obtain ⟨m, hm⟩ : ∃ m, m = M.length := ⟨_, rfl⟩
 rw [← hm]
 have Hm := Lib.hid hm
 clear hM hbk hB3 hB4 HNul HLiv HB HK hBl hMl hm
 go_wp2_with fail
 refine HC2.out.mono ?_
 rintro e w5 ⟨L, a, c, hL, rfl, hO, hB5⟩
 have hl5 := hB5.size
 rw [World.size_alloc] at hO hl5
 have HJ0 : Hid (LJ g w Bn w3.heap.size (w3.heap.size + 1) M L a c 0 0 w5) := Lib.hid ⟨HBN.out.below hB5 HBN.out.lt, hO, HB4.out.trans (hB5.mono HB4.out.size), ⟨hBn1, hBn2, by omega, hl5⟩, 0, (HM0.out.below hB5 HM0.out.lt).of_iff (fun p => (LeadU.zero g M _ p).symm), by omega⟩
 have HL := Lib.hid hL
 have hln := livL_len g L
 have hln2 := HMB.out.prods
 obtain ⟨n, hn⟩ : ∃ n, n = (livL g L).length := ⟨_, rfl⟩
 have HN := Lib.hid hn
 rw [← hn] at hln ⊢
 obtain ⟨b, hb⟩ : ∃ b, b = w3.heap.size := ⟨_, rfl⟩
 rw [← hb] at HJ0 hl3 hBn2 ⊢
 clear hL hO hB5 hn HC2 HB4 HBN HM0 hl5 HK3 hb d0 d1 d2 d3 d4 hKl
 go_wp2
 go_loopw [15] (fun vj wr => ∃ (j : Nat), vj = .int .i64 j ∧ j ≤ n ∧ Hid (LJ g w Bn b (b + 1) M L a c j 0 wr)) (fun vj _ => n - (intOf vj).toNat)
 case atStart => exact ⟨0, rfl, Nat.zero_le _, HJ0⟩
 case round =>
  clear HJ0
  obtain ⟨j, rfl, hj, K⟩ := hrel
  by_cases hlt : j < n
  ·obtain ⟨x, hx⟩ : ∃ x, (livL g L)[j]? = some x := ⟨_, List.getElem?_eq_getElem (by rw [← HN.out]; exact hlt)⟩
   have hxm := livL_mem.1 (List.mem_of_getElem? hx)
   have HXM := Lib.hid hxm
   have HRow := K.out.own.rowProd (fun y hy => (RowOf.mem HG.out.prods (livL_mem.1 hy).1).below K.out.low)
   obtain ⟨b1, o1, rfl, hb1, hc1, hi1⟩ := HRow j x hx
   obtain ⟨x0, x1, x2, x3, x4, x5, x6⟩ := Prod_at hc1
   have hB1 : Below wr.heap.size wr (wr.alloc (.cells (prodC x) 65)) := (Below.refl _ _).alloc (Nat.le_refl _) _
   have HJ0 := Lib.hid (K.out.below hB1)
   have HXB := Lib.hid (Blk.new wr 65 (prodC x))
   have hbw : b + 1 ≤ wr.heap.size := K.out.hx.2.2.2
   have HX := Lib.hid hx
   have hr := HMB.out.right x hxm.1
   have z1 : (j : Int) < (n : Int) := by omega
   have z0 : (0 : Int) ≤ (j : Int) := by omega
   have HPI : Hid (ProdIn w x) := Lib.hid (RowOf.mem HG.out.prods hxm.1)
   obtain ⟨k, hk, hkn⟩ := HMB.out.left x hxm.1
   obtain ⟨q, hq⟩ : ∃ q, q = x.right.length := ⟨_, rfl⟩
   have Hq := Lib.hid hq
   obtain ⟨ra, hra⟩ : ∃ ra, ra = x.ra := ⟨_, rfl⟩
   have Hra := Lib.hid hra
   have HE : Hid (prodC x = #[.int .i64 (k : Int), .slice ra q x.rc, .string x.cons, .int .i64 x.role, .bool x.prefer, .bool x.avoid, .int .i64 x.frm]) := Lib.hid (by rw [hq, hra, ← hk]; rfl)
   have HKl := Lib.hid hk
   have hkl2 := HMB.out.sorts2
   rw [← hq] at x1 hr
   rw [← hra] at x1
   rw [hk] at x0
   rw [HE.out] at HXB HJ0
   clear hx hxm HRow hc1 hi1 hB1 K hq hra hk
   go_wp2
   obtain ⟨wo, rfl⟩ : ∃ wo : World, wo = wr := ⟨_, rfl⟩
   go_loopw [22] (fun vi wr => ∃ (i : Nat), vi = .int .i64 i ∧ i ≤ q ∧ Hid (LJ g w Bn b (b + 1) M L (some ⟨b1, o1, none⟩) c j i wr ∧ Blk wr wo.heap.size 65 #[.int .i64 (k : Int), .slice ra q x.rc, .string x.cons, .int .i64 x.role, .bool x.prefer, .bool x.avoid, .int .i64 x.frm])) (fun vi _ => q - (intOf vi).toNat)
   case atStart => exact ⟨0, rfl, Nat.zero_le _, Lib.hid ⟨HJ0.out, HXB.out⟩⟩
   case round =>
    clear HJ0 HXB x0 x1 x2 x3 x4 x5 x6 hb1
    obtain ⟨i, rfl, hi, K⟩ := hrel
    by_cases hli : i < q
    ·obtain ⟨s, hs⟩ : ∃ s, x.right[i]? = some s := ⟨_, List.getElem?_eq_getElem (by rw [← Hq.out]; exact hli)⟩
     have hsm := List.mem_of_getElem? hs
     have HRow : RowSym w ra x.right := by have h := HPI.out; rw [Hra.out]; exact h
     obtain ⟨b2, o2, rfl, hb2, hc2, _⟩ := HRow i s hs
     have hc2 := hc2.below K.out.1.low hb2
     have hb2' := Nat.lt_of_lt_of_le hb2 K.out.1.low.size
     obtain ⟨s0, s1, s2, s3, s4, s5⟩ := Sym_at hc2
     have y1 : (i : Int) < (q : Int) := by omega
     have y0 : (0 : Int) ≤ (i : Int) := by omega
     have HS := Lib.hid hs
     have hB2 : Below wr.heap.size wr (wr.alloc (.cells (symC s) 60)) := (Below.refl _ _).alloc (Nat.le_refl _) _
     have HJ1 := Lib.hid (K.out.1.below hB2)
     have HXB1 := Lib.hid (K.out.2.below hB2 K.out.2.lt)
     have HSB := Lib.hid (Blk.new wr 60 (symC s))
     have HK1 : Hid (s.kind = 1 → ∃ t : Nat, s.sort = t ∧ t < g.sorts.length) := Lib.hid (fun h => HMB.out.sym x HXM.out.1 s hsm h)
     have HAl := Lib.hid (isAlone_any x i Bn M _ HJ1.out.bn (by rw [HMl.out]; exact hkl2) (HPI.out.below HJ1.out.low) (HMB.out.right x HXM.out.1) (by omega) (fun t ht hk0 => by rw [HMl.out]; exact HMB.out.sym x HXM.out.1 t ht (kind_one HMB.out HXM.out.1 ht hk0)))
     have hwo := K.out.2.lt
     clear hs hsm HRow hc2 hB2 K
     rw [← Hm.out] at HAl
     unfold prodV at HAl
     rw [HE.out] at HAl
     obtain ⟨sk, ss, so⟩ := s
     unfold symC at HJ1 HXB1 HSB HAl
     dsimp only at *
     cases k1 : (sk == 1) with
     | false =>
      have HZ := Lib.hid (HJ1.out.same (j' := j) (i' := i + 1) (fun p => LeadU.no HX.out HS.out (.inl (by simpa using k1)) p) (by omega))
      clear HAl HK1 HJ1 HSB
      obtain ⟨c0, c1, c2, c3, c4, c5, c6⟩ := cells7 HXB1.out
      go_wp2
      go_roundw
      case rel => exact ⟨i + 1, by go_num, by omega, Lib.hid ⟨HZ.out, HXB1.out⟩⟩
      case measure => simp [intOf]; omega
     | true =>
      obtain ⟨t, rfl, ht⟩ := HK1.out (by simpa using k1)
      obtain ⟨c0, c1, c2, c3, c4, c5, c6⟩ := cells7 HXB1.out
      clear HK1
      go_wp2_with fail
      refine HAl.out.mono ?_
      rintro e w6 ⟨r, rfl, hr1, hB6⟩
      have HJ6 := Lib.hid (HJ1.out.below hB6)
      have HXB6 := Lib.hid (HXB1.out.below hB6 HXB1.out.lt)
      have HSB6 := Lib.hid (HSB.out.below hB6 HSB.out.lt)
      have HR1 := Lib.hid hr1
      clear hr1 hB6 HAl HJ1 HXB1 HSB c0 c1 c2 c3 c4 c5 c6
      cases r with
      | false =>
       have HZ := Lib.hid (HJ6.out.same (j' := j) (i' := i + 1) (fun p => LeadU.no HX.out HS.out (.inr (fun h => by have := HR1.out.2 h; cases this)) p) (by omega))
       go_wp2
       go_roundw
       case rel => exact ⟨i + 1, by go_num, by omega, Lib.hid ⟨HZ.out, HXB6.out⟩⟩
       case measure => simp [intOf]; omega
      | true =>
       obtain ⟨c0, c1, c2, c3, c4, c5, c6⟩ := cells7 HXB6.out
       obtain ⟨d0, d1, d2, d3, d4, d5⟩ := cells6 HSB6.out
       have l6 := HXB6.out.lt
       have l7 := HSB6.out.lt
       obtain ⟨cnt, hmp, hcnt⟩ := HJ6.out.map
       have hp64 : P64 ((k : Int), (t : Int)) := by unfold P64 I64; omega
       go_wp2_with (first
        | (at_mapUpdate; refine wpList_putL _ rfl _ _ _ rfl b cnt _ rfl hmp (by unfold maxLen; omega) ((k : Int), (t : Int)) hp64 rfl rfl ?_; intro w7 hm7 hg7)
        | go_in)
       have HZ := Lib.hid (HJ6.out.put (j' := j) (i' := i + 1) hg7 hm7 (fun p => by
        have := LeadU.yes (g := g) HX.out HS.out (by simpa using k1) (HR1.out.1 trivial) p
        rw [HKl.out] at this
        exact this) (by omega))
       have HXB7 := Lib.hid (HXB6.out.kept hg7 (by simp; omega))
       clear hm7 hg7 hmp HJ6 HXB6
       go_wp2
       go_roundw
       case rel => exact ⟨i + 1, by go_num, by omega, Lib.hid ⟨HZ.out, HXB7.out⟩⟩
       case measure => simp [intOf]; omega
    ·obtain rfl : i = q := by omega
     have HZ : Hid (LJ g w Bn b (b + 1) M L (some ⟨b1, o1, none⟩) c (j + 1) 0 wr) := Lib.hid (K.out.1.same (fun p => by have h := LeadU.next (g := g) (M := M) HX.out p; rw [← Hq.out] at h; exact h) (by omega))
     clear K
     go_wp2
     go_roundw
     case rel => exact ⟨j + 1, by go_num, by omega, HZ⟩
     case measure => simp [intOf]; omega
  ·obtain rfl : j = n := by omega
   go_wp2
   go_ret
   obtain ⟨cnt, h1, h2⟩ := K.out.map
   exact ⟨b, cnt, M, L, HM.out, HL.out, rfl, by omega, by have h := h1; rw [HN.out] at h; exact h, by omega, K.out.low⟩
end Go.Proofs.YtodnlcbnbkkanaaGreatDoor
end
section
namespace Go.Proofs.YtodnlcbnbkkanaaGreatDoor
open Go Go.RowKit

inductive Far (E : Nat → Nat → Prop) : Nat → Nat → Prop
 | one {a b : Nat} : E a b → Far E a b
 | more {a b c : Nat} : Far E a b → E b c → Far E a c
theorem Far.trans {E : Nat → Nat → Prop} {a b c : Nat} (h : Far E a b) (k : Far E b c) : Far E a c := by
 induction k with
 | one e => exact h.more e
 | more _ e ih => exact ih.more e
structure Vis (E : Nat → Nat → Prop) (j : Nat) (M M' : List Bool) (S : Nat → Prop) : Prop where
 len : M'.length = M.length
 le : ∀ k : Nat, M[k]? = some true → M'[k]? = some true
 closed : ∀ k t : Nat, M'[k]? = some true → M[k]? ≠ some true → E k t → M'[t]? = some true
 sound : ∀ k : Nat, M'[k]? = some true → M[k]? = some true ∨ Far E j k
 here : ∀ t, S t → M'[t]? = some true
theorem Vis.start (E : Nat → Nat → Prop) (j : Nat) (M : List Bool) : Vis E j M M (fun _ => False) := ⟨rfl, fun _ h => h, fun _ _ h h2 => absurd h h2, fun _ h => .inl h, fun _ h => h.elim⟩
theorem Vis.skip {E : Nat → Nat → Prop} {j : Nat} {M M' : List Bool} {S S' : Nat → Prop} (h : Vis E j M M' S) {t : Nat} (ht : M'[t]? = some true) (hs : ∀ k, S' k → S k ∨ k = t) : Vis E j M M' S' :=
 ⟨h.len, h.le, h.closed, h.sound, fun k hk => by
  rcases hs k hk with h1 | rfl
  ·exact h.here k h1
  ·exact ht⟩
theorem Vis.skip' {E : Nat → Nat → Prop} {j : Nat} {M M' : List Bool} {S S' : Nat → Prop} (h : Vis E j M M' S) (hs : ∀ k, S' k → S k) : Vis E j M M' S' := ⟨h.len, h.le, h.closed, h.sound, fun k hk => h.here k (hs k hk)⟩
theorem get_set {M : List Bool} {t k : Nat} (ht : t < M.length) : (M.set t true)[k]? = some true ↔ k = t ∨ M[k]? = some true := by
 rw [List.getElem?_set]
 by_cases e : t = k
 ·subst e; simp [ht]
 ·rw [if_neg e]
  constructor
  ·exact .inr
  ·rintro (h | h)
   ·exact absurd h.symm e
   ·exact h
theorem Vis.call {E : Nat → Nat → Prop} {j t : Nat} {M M' M2 : List Bool} {S S' : Nat → Prop} (h : Vis E j M M' S) (ht : t < M'.length) (he : E j t) (hc : Vis E t (M'.set t true) M2 (E t)) (hs : ∀ k, S' k → S k ∨ k = t) : Vis E j M M2 S' := by
 have ht2 : M2[t]? = some true := hc.le t ((get_set ht).2 (.inl rfl))
 have hle : ∀ k : Nat, M'[k]? = some true → M2[k]? = some true := fun k hk => hc.le k ((get_set ht).2 (.inr hk))
 refine ⟨by rw [hc.len, List.length_set, h.len], fun k hk => hle k (h.le k hk), fun k u hk hn e => ?_, fun k hk => ?_, fun k hk => ?_⟩
 ·by_cases c : (M'.set t true)[k]? = some true
  ·rcases (get_set ht).1 c with rfl | c
   ·exact hc.here u e
   ·exact hle u (h.closed k u c hn e)
  ·exact hc.closed k u hk c e
 ·rcases hc.sound k hk with c | c
  ·rcases (get_set ht).1 c with rfl | c
   ·exact .inr (.one he)
   ·exact h.sound k c
  ·exact .inr ((Far.one he).trans c)
 ·rcases hs k hk with h1 | rfl
  ·exact hle k (h.here k h1)
  ·exact ht2
theorem Vis.all {E : Nat → Nat → Prop} {j n : Nat} {M' : List Bool} (h : Vis E j (List.replicate n false) M' (E j)) (k : Nat) : M'[k]? = some true ↔ Far E j k := by
 have hno : ∀ k : Nat, (List.replicate n false)[k]? ≠ some true := fun k hk => by
  rw [List.getElem?_replicate] at hk
  split at hk <;> simp at hk
 constructor
 ·intro hk
  exact (h.sound k hk).resolve_left (hno k)
 ·intro hk
  induction hk with
  | one e => exact h.here _ e
  | more _ e ih => exact h.closed _ _ ih (hno _) e

structure NextIn (B : Nat) (vals : List Value) (rows : List (List Int)) (n : Nat) (W : World) : Prop where
 blk : Blk W B 48 vals.toArray
 vlen : vals.length = n
 rlen : rows.length = n
 row : ∀ (k : Nat) (v : Value) (r : List Int), vals[k]? = some v → rows[k]? = some r → ∃ a c, v = .slice a r.length c ∧ RowInt W a r
theorem NextIn.below {B : Nat} {vals : List Value} {rows : List (List Int)} {n : Nat} {W V : World} (h : NextIn B vals rows n W) (hB : Below W.heap.size W V) : NextIn B vals rows n V :=
 ⟨h.blk.below hB h.blk.lt, h.vlen, h.rlen, fun k v r hv hr => by
  obtain ⟨a, c, h1, h2⟩ := h.row k v r hv hr
  exact ⟨a, c, h1, h2.belowN hB⟩⟩
def stepE (rows : List (List Int)) (k t : Nat) : Prop := ∃ r, rows[k]? = some r ∧ (t : Int) ∈ r

structure VJ (w0 : World) (N : Nat) (rows : List (List Int)) (n Bn Bx By Bm Bv : Nat) (M : List Bool) (W : World) : Prop where
 bn : Blk W Bn 111 #[.slice (some ⟨Bx, 0, none⟩) n n]
 by_ : Blk W By 31 #[.slice (some ⟨Bm, 0, none⟩) n n]
 bm : Blk W Bm 4 (bools M)
 bv : Blk W Bv 144 #[.func (.func 102) #[] #[.pointer (some ⟨Bn, 0, none⟩), .pointer (some ⟨By, 0, none⟩), .pointer (some ⟨Bv, 0, none⟩)]]
 len : M.length = n
 low : Below N w0 W
 hx : N ≤ Bm ∧ Bn ≠ Bm ∧ By ≠ Bm ∧ Bv ≠ Bm ∧ N ≤ w0.heap.size
theorem VJ.set {w0 : World} {N : Nat} {rows : List (List Int)} {n Bn Bx By Bm Bv : Nat} {M : List Bool} {W : World} (h : VJ w0 N rows n Bn Bx By Bm Bv M W) (k : Nat) : VJ w0 N rows n Bn Bx By Bm Bv (M.set k true) (W.setCell ⟨Bm, k, none⟩ (.bool true)) :=
 ⟨h.bn.other h.hx.2.1 _, h.by_.other h.hx.2.2.1 _, by rw [← bools_set]; exact h.bm.set k _, h.bv.other h.hx.2.2.2.1 _, by rw [List.length_set]; exact h.len, h.low.setCell (p := ⟨Bm, k, none⟩) h.hx.1 _, h.hx⟩

set_option maxRecDepth 100000 in
set_option maxHeartbeats 8000000 in
theorem visit_any (w0 : World) (N : Nat) (vals : List Value) (rows : List (List Int)) (n Bn Bx By Bm Bv : Nat) (hn : n ≤ 1000) (hNx : NextIn Bx vals rows n w0) (hN : N = w0.heap.size) (hlen : ∀ r, r ∈ rows → r.length ≤ 100000) (hin : ∀ r, r ∈ rows → ∀ t, t ∈ r → ∃ k : Nat, t = k ∧ k < n) :
  ∀ (d : Nat) (M : List Bool) (j : Nat) (w : World), M.count false ≤ d → j < n → VJ w0 N rows n Bn Bx By Bm Bv M w →
   Calls Tryz.prog 102 #[.int .i64 j, .pointer (some ⟨Bn, 0, none⟩), .pointer (some ⟨By, 0, none⟩), .pointer (some ⟨Bv, 0, none⟩)] w fun e w' => e = .returned (.tuple #[]) ∧ ∃ M', VJ w0 N rows n Bn Bx By Bm Bv M' w' ∧ Vis (stepE rows) j M M' (stepE rows j) := by
 intro d
 induction d using Nat.strongRecOn with
 | ind d ih =>
 intro M j w hd hj hJ
 obtain ⟨v, hv⟩ : ∃ v, vals[j]? = some v := ⟨_, List.getElem?_eq_getElem (by rw [hNx.vlen]; exact hj)⟩
 obtain ⟨r, hr⟩ : ∃ r, rows[j]? = some r := ⟨_, List.getElem?_eq_getElem (by rw [hNx.rlen]; exact hj)⟩
 obtain ⟨ra, rc, rfl, hrow⟩ := hNx.row j v r hv hr
 have cb := (hNx.blk.below (hN ▸ hJ.low) hNx.blk.lt).cell j
 have lb := (hNx.blk.below (hN ▸ hJ.low) hNx.blk.lt).lt
 rw [List.getElem?_toArray, hv] at cb
 have HRow := Lib.hid hrow
 have c1 := hJ.bn.cell 0
 have l1 := hJ.bn.lt
 have HJ := Lib.hid hJ
 have HIh := Lib.hid ih
 have HD := Lib.hid hd
 have HR := Lib.hid hr
 have hrl := hlen r (List.mem_of_getElem? hr)
 have HIn := Lib.hid (hin r (List.mem_of_getElem? hr))
 have HN := Lib.hid hN
 obtain ⟨q, hq⟩ : ∃ q, q = r.length := ⟨_, rfl⟩
 have Hq := Lib.hid hq
 rw [← hq] at cb hrl
 have z1 : (j : Int) < (n : Int) := by omega
 have z0 : (0 : Int) ≤ (j : Int) := by omega
 clear hNx hlen hin hJ ih hd hr hv hrow hq hN
 go_enter Tryz.func102, Tryz.ntmps102
 go_wp2
 go_loopw [12] (fun vi wr => ∃ (i : Nat) (M' : List Bool), vi = .int .i64 i ∧ i ≤ q ∧ Hid (VJ w0 N rows n Bn Bx By Bm Bv M' wr ∧ Vis (stepE rows) j M M' (fun t => ∃ i', i' < i ∧ r[i']? = some (t : Int)))) (fun vi _ => q - (intOf vi).toNat)
 case atStart => exact ⟨0, M, rfl, Nat.zero_le _, Lib.hid ⟨HJ.out, (Vis.start _ j M).skip' (fun k ⟨i', h, _⟩ => absurd h (by omega))⟩⟩
 case round =>
  clear HJ c1 l1 cb lb
  obtain ⟨i, M', rfl, hi, K⟩ := hrel
  by_cases hlt : i < q
  ·obtain ⟨u, hu⟩ : ∃ u, r[i]? = some u := ⟨_, List.getElem?_eq_getElem (by rw [← Hq.out]; exact hlt)⟩
   obtain ⟨t, rfl, ht⟩ := HIn.out u (List.mem_of_getElem? hu)
   obtain ⟨b1, o1, rfl, hb1, hc1, _⟩ := HRow.out i _ hu
   have hc1 := hc1.below (HN.out ▸ K.out.1.low) hb1
   have hb1' : b1 < wr.heap.size := Nat.lt_of_lt_of_le hb1 K.out.1.low.size
   have y0 := Int_at hc1
   rw [Nat.mul_one] at y0
   have cy := K.out.1.by_.cell 0
   have ly := K.out.1.by_.lt
   have n1 : (i : Int) < (q : Int) := by omega
   have n0 : (0 : Int) ≤ (i : Int) := by omega
   have htl : t < M'.length := by rw [K.out.1.len]; exact ht
   have HMk := Lib.hid (mark_any M' Bm t n n wr K.out.1.bm htl (by rw [K.out.1.len]; exact Nat.le_refl _) (by omega))
   have HV := Lib.hid K.out.2
   have HSt := Lib.hid (K.out.1.set t)
   have HE : Hid (stepE rows j t) := Lib.hid ⟨r, HR.out, List.mem_of_getElem? hu⟩
   have hS : Hid (∀ k : Nat, (∃ i', i' < i + 1 ∧ r[i']? = some (k : Int)) → (∃ i', i' < i ∧ r[i']? = some (k : Int)) ∨ k = t) := Lib.hid fun k ⟨i', h1, h2⟩ => by
    by_cases e : i' = i
    ·subst e; rw [hu] at h2; right; have := Option.some.inj h2; omega
    ·exact .inl ⟨i', by omega, h2⟩
   have HTl := Lib.hid htl
   obtain ⟨v, hv⟩ : ∃ v, v = lv M' (t : Int) := ⟨_, rfl⟩
   have Hv := Lib.hid hv
   rw [← hv] at HMk
   clear hu hc1 K hv htl
   go_wp2_with fail
   refine HMk.out.mono ?_
   rintro e w4 ⟨rfl, hw4⟩
   have HSt4 : Hid (VJ w0 N rows n Bn Bx By Bm Bv (M'.set t true) w4) := Lib.hid (by rw [hw4]; exact HSt.out)
   clear hw4 HSt HMk
   cases v with
   | true =>
    have hsame := set_true_same HTl.out Hv.out.symm
    have HZ : Hid (VJ w0 N rows n Bn Bx By Bm Bv M' w4 ∧ Vis (stepE rows) j M M' (fun t => ∃ i', i' < i + 1 ∧ r[i']? = some (t : Int))) := Lib.hid ⟨by have h := HSt4.out; rw [hsame] at h; exact h, HV.out.skip (t := t) (by have h := lv_true Hv.out.symm; rwa [Int.toNat_natCast] at h) hS.out⟩
    clear hsame
    go_wp2
    go_roundw
    case rel => exact ⟨i + 1, M', by go_num, by omega, HZ⟩
    case measure => simp [intOf]; omega
   | false =>
    have cv := HSt4.out.bv.cell 0
    have lvv := HSt4.out.bv.lt
    have hcnt := count_set (lv_false_at HTl.out Hv.out.symm)
    have hcM : M'.count false ≤ M.count false := count_le HV.out.len HV.out.le
    have HC := Lib.hid (HIh.out ((M'.set t true).count false) (by have := HD.out; omega) (M'.set t true) t w4 (Nat.le_refl _) ht HSt4.out)
    clear hcnt hcM
    go_wp2_with fail
    refine HC.out.mono ?_
    rintro e w5 ⟨rfl, M2, hJ5, hV5⟩
    have HZ : Hid (VJ w0 N rows n Bn Bx By Bm Bv M2 w5 ∧ Vis (stepE rows) j M M2 (fun t => ∃ i', i' < i + 1 ∧ r[i']? = some (t : Int))) := Lib.hid ⟨hJ5, HV.out.call HTl.out HE.out hV5 hS.out⟩
    clear hJ5 hV5 HC cv
    go_wp2
    go_roundw
    case rel => exact ⟨i + 1, M2, by go_num, by omega, HZ⟩
    case measure => simp [intOf]; omega
  ·obtain rfl : i = q := by omega
   go_wp2
   refine bodyPost_end (results_none rfl _ _ _) rfl ?_
   refine ⟨rfl, M', K.out.1, K.out.2.skip' fun k ⟨r', h1, h2⟩ => ?_⟩
   rw [HR.out] at h1
   cases h1
   obtain ⟨i', hi'⟩ := List.mem_iff_getElem?.1 h2
   exact ⟨i', by have := (List.getElem?_eq_some_iff.1 hi').1; have := Hq.out; omega, hi'⟩
def BackPost (w : World) (rows : List (List Int)) (j : Nat) (e : Ending) (w' : World) : Prop := ∃ b : Bool, e = .returned (.bool b) ∧ (b = true ↔ Far (stepE rows) j j) ∧ Below w.heap.size w w'

set_option maxRecDepth 100000 in
set_option maxHeartbeats 4000000 in
theorem comesBack_any (vals : List Value) (rows : List (List Int)) (n B j : Nat) (w : World) (hn : n ≤ 1000) (hNx : NextIn B vals rows n w) (hlen : ∀ r, r ∈ rows → r.length ≤ 100000) (hin : ∀ r, r ∈ rows → ∀ t, t ∈ r → ∃ k : Nat, t = k ∧ k < n) (hj : j < n) :
  Calls Tryz.prog 77 #[.slice (some ⟨B, 0, none⟩) n n, .int .i64 j] w (BackPost w rows j) := by
 have hmk := fun w' => make_bools n hn w'
 obtain ⟨RL, hRL⟩ : ∃ RL : List Bool, RL = List.replicate n false := ⟨_, rfl⟩
 have hRl : RL.length = n := by rw [hRL]; simp
 rw [← hRL] at hmk
 have e1 := Blk.new w 111 #[.slice (some ⟨B, 0, none⟩) n n]
 have e2 := Blk.new (w.alloc (.cells #[.slice (some ⟨B, 0, none⟩) n n] 111)) 4 (bools RL)
 have e3 := Blk.new ((w.alloc (.cells #[.slice (some ⟨B, 0, none⟩) n n] 111)).alloc (.cells (bools RL) 4)) 31 #[.slice (some ⟨w.heap.size + 1, 0, none⟩) n n]
 have e4 := Blk.new (((w.alloc (.cells #[.slice (some ⟨B, 0, none⟩) n n] 111)).alloc (.cells (bools RL) 4)).alloc (.cells #[.slice (some ⟨w.heap.size + 1, 0, none⟩) n n] 31)) 144 #[.func (.func 102) #[] #[.pointer (some ⟨w.heap.size, 0, none⟩), .pointer (some ⟨w.heap.size + 1 + 1, 0, none⟩), .pointer (some ⟨w.heap.size + 1 + 1 + 1, 0, none⟩)]]
 simp only [World.size_alloc] at e2 e3 e4
 obtain ⟨W1, hW1⟩ : ∃ W1, W1 = (((w.alloc (.cells #[.slice (some ⟨B, 0, none⟩) n n] 111)).alloc (.cells (bools RL) 4)).alloc (.cells #[.slice (some ⟨w.heap.size + 1, 0, none⟩) n n] 31)).alloc (.cells #[.func (.func 102) #[] #[.pointer (some ⟨w.heap.size, 0, none⟩), .pointer (some ⟨w.heap.size + 1 + 1, 0, none⟩), .pointer (some ⟨w.heap.size + 1 + 1 + 1, 0, none⟩)]] 144) := ⟨_, rfl⟩
 have hJ : VJ w w.heap.size rows n w.heap.size B (w.heap.size + 1 + 1) (w.heap.size + 1) (w.heap.size + 1 + 1 + 1) RL W1 := by
  rw [hW1]
  exact ⟨((e1.alloc _).alloc _).alloc _, e3.alloc _, (e2.alloc _).alloc _, e4, hRl, ((((Below.refl _ w).alloc (Nat.le_refl _) _).alloc (by simp) _).alloc (by simp; omega) _).alloc (by simp; omega) _, by omega⟩
 have HV := Lib.hid (visit_any w w.heap.size vals rows n w.heap.size B (w.heap.size + 1 + 1) (w.heap.size + 1) (w.heap.size + 1 + 1 + 1) hn hNx rfl hlen hin _ RL j W1 (Nat.le_refl _) hj hJ)
 have HRL := Lib.hid hRL
 have HW1 := Lib.hid hW1
 have HJ := Lib.hid hJ
 have z1 : (j : Int) < (n : Int) := by omega
 have z0 : (0 : Int) ≤ (j : Int) := by omega
 clear hNx hlen hin e1 e2 e3 e4 hW1 hRL hRl hJ
 go_enter Tryz.func77, Tryz.ntmps77
 go_upto_region 4 with (fail)
 rw [← HW1.out]
 have cv := HJ.out.bv.cell 0
 have lvv := HJ.out.bv.lt
 go_wp2_with fail
 refine HV.out.mono ?_
 rintro e w5 ⟨rfl, M', hJ5, hV5⟩
 have cy := hJ5.by_.cell 0
 have ly := hJ5.by_.lt
 have cm := hJ5.bm.cell j
 have lm := hJ5.bm.lt
 rw [bools_at M' j (by rw [hJ5.len]; omega)] at cm
 have HB5 := Lib.hid hJ5.low
 have HA : Hid (lv M' j = true ↔ Far (stepE rows) j j) := Lib.hid (by
  rw [HRL.out] at hV5
  rw [← hV5.all j]
  constructor
  ·intro h; have := lv_true h; rwa [Int.toNat_natCast] at this
  ·intro h; exact lv_some (by rwa [Int.toNat_natCast]))
 generalize lv M' j = v at *
 clear hJ5 hV5 HV HJ cv
 go_wp2
 go_ret
 exact ⟨v, rfl, HA.out, HB5.out⟩
end Go.Proofs.YtodnlcbnbkkanaaGreatDoor
end
