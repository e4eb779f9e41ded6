import Derived.StillTail
import Derived.OrdersIn
import Derived.TacticsIn
import Derived.Test.YtodnlcbnbkkanaaGreatDoorO2
import Derived.Test.YtodnlcbnbkkanaaGreatDoorO3
import Derived.Test.YtodnlcbnbkkanaaGreatDoorO9
section
namespace Go.Proofs.YtodnlcbnbkkanaaGreatDoor
open Go Go.RowKit

theorem OwnP.kept {N : Nat} {w W : World} {a : Option Addr} {c : Nat} {l : List ProdM} (h : OwnP N w a c l) {B : Nat} (hg : w.grownBy W (some B)) (hB : B < N) : OwnP N W a c l := by
  refine ⟨?_, h.cap⟩
  rcases h.row with h | ⟨B', cs, h1, h2, hb, hr⟩
  · exact .inl h
  · refine .inr ⟨B', cs, h1, h2, hb.kept hg ?_, hr⟩
    have : B' ≠ B := by omega
    simpa using this
structure BJ (g : GramM) (w0 : World) (N Bx Bb Be n : Nat) (a : Option Addr) (c : Nat) (M L : List Bool) (F : List BS) (W : World) : Prop where
  bx : Blk W Bx 118 #[.slice (some ⟨Bb, 0, none⟩) n n, .slice (some ⟨Be, 0, none⟩) n n]
  bb : Blk W Bb 47 (setsC F)
  be : Blk W Be 4 (bools M)
  br : Blk W (w0.heap.size + 1) 118 #[.slice none 0 0, .slice none 0 0]
  len : F.length = n
  snd : SoundF g F
  low : Below w0.heap.size w0 W
  own : OwnP N W a c (livL g L)
  hx : w0.heap.size ≤ Bb ∧ Bb < N
section
variable {g : GramM} {w0 : World} {N Bx Bb Be n : Nat} {a : Option Addr} {c : Nat} {M L : List Bool} {F : List BS} {W : World}
theorem BJ.below {V : World} (h : BJ g w0 N Bx Bb Be n a c M L F W) (hB : Below W.heap.size W V) : BJ g w0 N Bx Bb Be n a c M L F V :=
  ⟨h.bx.below hB h.bx.lt, h.bb.below hB h.bb.lt, h.be.below hB h.be.lt, h.br.below hB h.br.lt, h.len, h.snd, h.low.trans (hB.mono h.low.size), h.own.below hB (Nat.le_refl _), h.hx⟩
theorem BJ.prods (h : BJ g w0 N Bx Bb Be n a c M L F W) (hg : GIn w0 g) : RowProd W a (livL g L) := h.own.rowProd fun x hx => (RowOf.mem hg.prods (livL_mem.1 hx).1).below h.low
end
theorem begin_steps {g : GramM} (hm : MayB g) (hs : MaySet g) {w0 : World} (hg : GIn w0 g) {M L : List Bool} (hM : NullP g M) (hL : Live g L) {N Bx Bb Be : Nat} {a : Option Addr} {c : Nat} :
    StepsBy 103 #[.pointer (some ⟨Bx, 0, none⟩)] (livL g L) (BJ g w0 N Bx Bb Be g.sorts.length a c M L) (QuietF M) sizeZ := by
  intro F W x hx hI
  have hxg := (livL_mem.1 hx).1
  obtain ⟨k, hk, hkn⟩ := hm.left x hxg
  refine (f103_any x F M Bx Bb Be g.sorts.length k (SoundF g) w0 W hI.low hI.hx.1 hI.bx hI.bb hI.be hI.len hM.1 hm.sorts2 (RowOf.mem hg.prods hxg) (hm.right x hxg) (hm.kind x hxg) (hm.sym x hxg) hk hkn hI.snd (fun F i s hS hl hi ha => by
    have := SoundF.step hm hM hL hs hS hx hi ha
    rwa [hk, Int.toNat_natCast] at this)).mono ?_
  rintro e w' ⟨F', b, rfl, hg', hb', hl', hS', hst⟩
  refine ⟨b, F', rfl, ⟨hI.bx.kept hg' (by simpa using blk_ne hI.bx hI.bb (by decide)), hb', hI.be.kept hg' (by simpa using blk_ne hI.be hI.bb (by decide)), hI.br.kept hg' (by simpa using blk_ne hI.br hI.bb (by decide)), hl', hS', hI.low.grown hg' hI.low.size (fun k e => by cases e; exact hI.hx.1), hI.own.kept hg' hI.hx.2, hI.hx⟩, fun h => ?_, fun h => ?_⟩
  · rcases hst with ⟨_, h2, h3⟩ | ⟨h1, _⟩
    · exact ⟨h2, h3⟩
    · rw [h] at h1; cases h1
  · rcases hst with ⟨h1, _⟩ | ⟨_, h2⟩
    · rw [h] at h1; cases h1
    · exact h2
theorem info47 : (Tryz.prog.info? 47).map (fun i => (i.zero, i.size, i.bytes)) = some (some (.agg #[.int .u64 0, .int .u64 0, .int .u64 0, .int .u64 0]), 4, 32) := by kernel_rfl
theorem wdI_zero (j : Nat) : wdI 0#256 j = 0 := by
  unfold wdI
  rw [show wd 0#256 j = 0#64 from BitVec.eq_of_getLsbD_eq fun i _ => by rw [wd_bit]; simp]
  rfl
theorem make_sets (n : Nat) (hn : n ≤ 1000) (w : World) : (Instr.makeSlice 38 (.int .i64 (n : Int)) (.int .i64 (n : Int))).run Tryz.prog w = .ok (.slice (some ⟨w.heap.size, 0, none⟩) n n) (w.alloc (.cells (setsC (List.replicate n 0#256)) 47)) := by
  obtain ⟨i0, hi, hz0, hz1, hz2⟩ := info_parts info47
  have e : setsC (List.replicate n 0#256) = madeCells #[.int .u64 0, .int .u64 0, .int .u64 0, .int .u64 0] (n * 4) := by
    apply Array.ext_getElem?
    intro i
    by_cases h : i < n * 4
    · have h1 := set_cell (setsC_at (L := List.replicate n 0#256) (k := i / 4) (s := 0#256) (by rw [List.getElem?_replicate, if_pos (by omega)])) (j := i % 4) (by omega)
      rw [show i / 4 * 4 + i % 4 = i by omega, wdI_zero] at h1
      rw [h1]
      unfold madeCells
      rw [Array.getElem?_map, Array.getElem?_range, if_pos h, Option.map_some]
      have : i % 4 = 0 ∨ i % 4 = 1 ∨ i % 4 = 2 ∨ i % 4 = 3 := by omega
      have e2 : (#[Value.int .u64 0, .int .u64 0, .int .u64 0, .int .u64 0] : Array Value).size = 4 := rfl
      rw [e2]
      rcases this with h | h | h | h <;> rw [h] <;> rfl
    · rw [Array.getElem?_eq_none (by rw [setsC_size]; simp; omega), Array.getElem?_eq_none (by rw [size_madeCells]; omega)]
  have hb' : (i0.bytes : Int) * (n : Int) ≤ 281474976710656 := by rw [hz2]; omega
  have hr := run_make (P := Tryz.prog) w 38 47 i0 (.agg #[.int .u64 0, .int .u64 0, .int .u64 0, .int .u64 0]) Tryz.underlying38 hi hz0 .i64 .i64 n n (by omega) (Int.le_refl _) hb' (by omega)
  simp only [Int.toNat_natCast, hz1] at hr
  rw [e]
  exact hr
def BegPost (g : GramM) (w : World) (e : Ending) (w' : World) : Prop := ∃ (F : List BS) (M : List Bool) (Bb Be : Nat), FirstP g F ∧ NullP g M ∧ e = .returned (.agg #[.slice (some ⟨Bb, 0, none⟩) g.sorts.length g.sorts.length, .slice (some ⟨Be, 0, none⟩) g.sorts.length g.sorts.length]) ∧ w.heap.size ≤ Bb ∧ w.heap.size ≤ Be ∧ Blk w' Bb 47 (setsC F) ∧ Blk w' Be 4 (bools M) ∧ Below w.heap.size w w'
structure Beg1 (g : GramM) (w : World) (n Bx Bb Be : Nat) (M : List Bool) (W : World) : Prop where
  b0 : Blk W w.heap.size 27 (gramC g)
  br : Blk W (w.heap.size + 1) 118 #[.slice none 0 0, .slice none 0 0]
  bx : Blk W Bx 118 #[.slice (some ⟨Bb, 0, none⟩) n n, .slice (some ⟨Be, 0, none⟩) n n]
  bb : Blk W Bb 47 (setsC (List.replicate n 0#256))
  be : Blk W Be 4 (bools M)
  low : Below w.heap.size w W
  hx : w.heap.size + 1 < Bb ∧ w.heap.size + 1 < Be ∧ w.heap.size + 1 < Bx

theorem blk_new2 (w : World) (o : Obj) (t : Nat) (cs : Array Value) : Blk ((w.alloc o).alloc (.cells cs t)) (w.heap.size + 1) t cs := by
  have h := Blk.new (w.alloc o) t cs
  rw [World.size_alloc] at h
  exact h
theorem beg_mk {g : GramM} {w : World} {n Bx Bb Be : Nat} {M : List Bool} {V : World} {RL : Array Value} (hRL : RL = setsC (List.replicate n 0#256)) {G : Array Value} (hG : gramC g = G) (h0 : Blk V w.heap.size 27 G) (hr : Blk V (w.heap.size + 1) 118 #[.slice none 0 0, .slice none 0 0]) (hx : Blk V Bx 118 #[.slice (some ⟨Bb, 0, none⟩) n n, .slice (some ⟨Be, 0, none⟩) n n]) (hb : Blk V Bb 47 RL) (he : Blk V Be 4 (bools M)) (low : Below w.heap.size w V) (hz : w.heap.size + 1 < Bb ∧ w.heap.size + 1 < Be ∧ w.heap.size + 1 < Bx) : Beg1 g w n Bx Bb Be M V :=
  ⟨by rw [hG]; exact h0, hr, hx, by rw [← hRL]; exact hb, he, low, hz⟩
theorem beg_fin {g : GramM} {w : World} {n Bx Bb Be : Nat} {M : List Bool} {V : World} {RL : Array Value} (hRL : RL = setsC (List.replicate n 0#256)) {G : Array Value} (hG : gramC g = G) (h0 : Blk V w.heap.size 27 G) (hr : Blk V (w.heap.size + 1) 118 #[.slice none 0 0, .slice none 0 0]) (hx : Blk V Bx 118 #[.slice none 0 0, .slice none 0 0]) (hb : Blk V Bb 47 RL) (he : Blk V Be 4 (bools M)) (low : Below w.heap.size w V) (hz : w.heap.size + 1 < Bb ∧ w.heap.size + 1 < Be ∧ w.heap.size + 1 < Bx) :
    Beg1 g w n Bx Bb Be M ((V.setCell ⟨Bx, 0, none⟩ (.slice (some ⟨Bb, 0, none⟩) n n)).setCell ⟨Bx, 1, none⟩ (.slice (some ⟨Be, 0, none⟩) n n)) := by
  have n1 : Bb ≠ Bx := blk_ne hb hx (by decide)
  have n2 : Be ≠ Bx := blk_ne he hx (by decide)
  exact ⟨by rw [hG]; exact (h0.other (by show w.heap.size ≠ Bx; omega) _).other (by show w.heap.size ≠ Bx; omega) _, (hr.other (by show w.heap.size + 1 ≠ Bx; omega) _).other (by show w.heap.size + 1 ≠ Bx; omega) _,
    (hx.set 0 (.slice (some ⟨Bb, 0, none⟩) n n)).set 1 (.slice (some ⟨Be, 0, none⟩) n n), by rw [← hRL]; exact (hb.other n1 _).other n1 _, (he.other n2 _).other n2 _,
    (low.setCell (p := ⟨Bx, 0, none⟩) (by show w.heap.size ≤ Bx; omega) _).setCell (p := ⟨Bx, 1, none⟩) (by show w.heap.size ≤ Bx; omega) _, hz⟩

theorem beg_set {g : GramM} {w : World} {n Bx Be : Nat} {M : List Bool} {V : World} {RL : Array Value} (hRL : RL = setsC (List.replicate n 0#256)) {G : Array Value} (hG : gramC g = G) (h0 : Blk V w.heap.size 27 G) (hr : Blk V (w.heap.size + 1) 118 #[.slice none 0 0, .slice none 0 0]) (hx : Blk V Bx 118 #[.slice none 0 0, .slice none 0 0]) (he : Blk V Be 4 (bools M)) (low : Below w.heap.size w V) (hz : w.heap.size + 1 < V.heap.size ∧ w.heap.size + 1 < Be ∧ w.heap.size + 1 < Bx) :
    Beg1 g w n Bx V.heap.size Be M (((V.setCell ⟨Bx, 0, none⟩ (.slice (some ⟨V.heap.size, 0, none⟩) n n)).setCell ⟨Bx, 1, none⟩ (.slice (some ⟨Be, 0, none⟩) n n)).alloc (.cells RL 47)) := by
  have n2 : Be ≠ Bx := blk_ne he hx (by decide)
  have hsz : ((V.setCell ⟨Bx, 0, none⟩ (.slice (some ⟨V.heap.size, 0, none⟩) n n)).setCell ⟨Bx, 1, none⟩ (.slice (some ⟨Be, 0, none⟩) n n)).heap.size = V.heap.size := by rw [World.size_setCell, World.size_setCell]
  have hnew := Blk.new ((V.setCell ⟨Bx, 0, none⟩ (.slice (some ⟨V.heap.size, 0, none⟩) n n)).setCell ⟨Bx, 1, none⟩ (.slice (some ⟨Be, 0, none⟩) n n)) 47 RL
  rw [hsz] at hnew
  have hlow := (low.setCell (p := ⟨Bx, 0, none⟩) (by show w.heap.size ≤ Bx; omega) (.slice (some ⟨V.heap.size, 0, none⟩) n n)).setCell (p := ⟨Bx, 1, none⟩) (by show w.heap.size ≤ Bx; omega) (.slice (some ⟨Be, 0, none⟩) n n)
  exact ⟨by rw [hG]; exact ((h0.other (by show w.heap.size ≠ Bx; omega) _).other (by show w.heap.size ≠ Bx; omega) _).alloc _, ((hr.other (by show w.heap.size + 1 ≠ Bx; omega) _).other (by show w.heap.size + 1 ≠ Bx; omega) _).alloc _,
    ((hx.set 0 (.slice (some ⟨V.heap.size, 0, none⟩) n n)).set 1 (.slice (some ⟨Be, 0, none⟩) n n)).alloc _, by rw [← hRL]; exact hnew, ((he.other n2 _).other n2 _).alloc _,
    hlow.alloc hlow.size _, hz⟩

set_option maxRecDepth 100000 in
set_option maxHeartbeats 8000000 in
theorem beginsOf_any (g : GramM) (hm : MayB g) (hs : MaySet g) (hf : Fit g) (w : World) (hg : GIn w g) : Calls Tryz.prog 78 #[gramV g] w (BegPost g w) := by
  have hmk := fun w' => make_sets g.sorts.length hm.sorts2 w'
  have hn1 := hm.sorts2
  have HNu := Lib.hid (fun W (hW : Below w.heap.size w W) => nullable_any g hm hf W (hg.below hW))
  have HLi := Lib.hid (fun W (hW : Below w.heap.size w W) => living_any g hm hf W (hg.below hW))
  have HMA := Lib.hid (And.intro hm (And.intro hs hg))
  have HB0 : Hid (Below w.heap.size w ((w.alloc (.cells (gramC g) 27)).alloc (.cells #[.slice none 0 0, .slice none 0 0] 118))) := Lib.hid (((Below.refl _ _).alloc (Nat.le_refl _) _).alloc (by simp) _)
  have HG0 : Hid (Blk ((w.alloc (.cells (gramC g) 27)).alloc (.cells #[.slice none 0 0, .slice none 0 0] 118)) w.heap.size 27 (gramC g) ∧ Blk ((w.alloc (.cells (gramC g) 27)).alloc (.cells #[.slice none 0 0, .slice none 0 0] 118)) (w.heap.size + 1) 118 #[.slice none 0 0, .slice none 0 0]) := Lib.hid (by
    have h := Blk.new (w.alloc (.cells (gramC g) 27)) 118 #[.slice none 0 0, .slice none 0 0]
    rw [World.size_alloc] at h
    exact ⟨(Blk.new w 27 _).alloc _, h⟩)
  obtain ⟨n, hn⟩ : ∃ n, n = g.sorts.length := ⟨_, rfl⟩
  have N1 := Lib.hid hn
  unfold MarksPost at HNu
  unfold BegPost
  rw [← hn] at hn1 hmk
  clear hm hs hg hf
  unfold gramV gramC at *
  rw [← hn] at HNu HLi HB0 HG0 ⊢
  clear hn
  obtain ⟨W0, hW0⟩ : ∃ W, W = (w.alloc (.cells #[.slice g.sa n g.sc, .slice g.pa g.prods.length g.pc, .int .i64 g.start, .slice g.fa g.forbid.length g.fc, .slice g.wa g.follow.length g.wc] 27)).alloc (.cells #[.slice none 0 0, .slice none 0 0] 118) := ⟨_, rfl⟩
  have HW0 := Lib.hid hW0
  rw [← hW0] at HB0 HG0
  clear hW0
  go_enter Tryz.func78, Tryz.ntmps78
  go_upto_region 1 with fail
  rw [← HW0.out]
  obtain ⟨c0, c1, c2, c3, c4⟩ := cells5s HG0.out.1
  have l0 := HG0.out.1.lt
  obtain ⟨RL, hRL⟩ : ∃ RL : Array Value, RL = setsC (List.replicate n 0#256) := ⟨_, rfl⟩
  have HRL := Lib.hid hRL
  rw [← hRL] at hmk
  clear hRL
  have HGr : Hid (gramC g = #[.slice g.sa n g.sc, .slice g.pa g.prods.length g.pc, .int .i64 g.start, .slice g.fa g.forbid.length g.fc, .slice g.wa g.follow.length g.wc]) := Lib.hid (by rw [N1.out]; rfl)
  have HB0d := Lib.hid HB0.out.drew
  have HG0d : Hid (Blk W0.drew w.heap.size 27 #[.slice g.sa n g.sc, .slice g.pa g.prods.length g.pc, .int .i64 g.start, .slice g.fa g.forbid.length g.fc, .slice g.wa g.follow.length g.wc] ∧ Blk W0.drew (w.heap.size + 1) 118 #[.slice none 0 0, .slice none 0 0]) := Lib.hid ⟨HG0.out.1.drew, HG0.out.2.drew⟩
  have hsz : w.heap.size + 1 < W0.heap.size := HG0.out.2.lt
  have hA : Below w.heap.size w (W0.drew) := HB0d.out
  have gA := Lib.hid (show Blk (W0.drew) w.heap.size 27 #[.slice g.sa n g.sc, .slice g.pa g.prods.length g.pc, .int .i64 g.start, .slice g.fa g.forbid.length g.fc, .slice g.wa g.follow.length g.wc] from HG0d.out.1)
  have rA := Lib.hid (show Blk (W0.drew) (w.heap.size + 1) 118 #[.slice none 0 0, .slice none 0 0] from HG0d.out.2)
  have HA := Lib.hid hA
  clear hA
  have hB : Below w.heap.size w (W0.drew.alloc (.cells RL 47)) := (HB0d.out).alloc (by simp <;> omega) _
  have gB := Lib.hid (show Blk (W0.drew.alloc (.cells RL 47)) w.heap.size 27 #[.slice g.sa n g.sc, .slice g.pa g.prods.length g.pc, .int .i64 g.start, .slice g.fa g.forbid.length g.fc, .slice g.wa g.follow.length g.wc] from (HG0d.out.1).alloc _)
  have rB := Lib.hid (show Blk (W0.drew.alloc (.cells RL 47)) (w.heap.size + 1) 118 #[.slice none 0 0, .slice none 0 0] from (HG0d.out.2).alloc _)
  have mBS := Lib.hid (show Blk (W0.drew.alloc (.cells RL 47)) W0.heap.size 47 RL from Blk.new W0.drew 47 _)
  have HB := Lib.hid hB
  clear hB
  have hC : Below w.heap.size w (W0.drew.alloc (.cells #[.slice none 0 0, .slice none 0 0] 118)) := (HB0d.out).alloc (by simp <;> omega) _
  have gC := Lib.hid (show Blk (W0.drew.alloc (.cells #[.slice none 0 0, .slice none 0 0] 118)) w.heap.size 27 #[.slice g.sa n g.sc, .slice g.pa g.prods.length g.pc, .int .i64 g.start, .slice g.fa g.forbid.length g.fc, .slice g.wa g.follow.length g.wc] from (HG0d.out.1).alloc _)
  have rC := Lib.hid (show Blk (W0.drew.alloc (.cells #[.slice none 0 0, .slice none 0 0] 118)) (w.heap.size + 1) 118 #[.slice none 0 0, .slice none 0 0] from (HG0d.out.2).alloc _)
  have mCX := Lib.hid (show Blk (W0.drew.alloc (.cells #[.slice none 0 0, .slice none 0 0] 118)) W0.heap.size 118 #[.slice none 0 0, .slice none 0 0] from Blk.new W0.drew 118 _)
  have HC := Lib.hid hC
  clear hC
  have hD : Below w.heap.size w ((W0.drew.alloc (.cells RL 47)).alloc (.cells #[.slice none 0 0, .slice none 0 0] 118)) := ((HB0d.out).alloc (by simp <;> omega) _).alloc (by simp <;> omega) _
  have gD := Lib.hid (show Blk ((W0.drew.alloc (.cells RL 47)).alloc (.cells #[.slice none 0 0, .slice none 0 0] 118)) w.heap.size 27 #[.slice g.sa n g.sc, .slice g.pa g.prods.length g.pc, .int .i64 g.start, .slice g.fa g.forbid.length g.fc, .slice g.wa g.follow.length g.wc] from ((HG0d.out.1).alloc _).alloc _)
  have rD := Lib.hid (show Blk ((W0.drew.alloc (.cells RL 47)).alloc (.cells #[.slice none 0 0, .slice none 0 0] 118)) (w.heap.size + 1) 118 #[.slice none 0 0, .slice none 0 0] from ((HG0d.out.2).alloc _).alloc _)
  have mDS := Lib.hid (show Blk ((W0.drew.alloc (.cells RL 47)).alloc (.cells #[.slice none 0 0, .slice none 0 0] 118)) W0.heap.size 47 RL from (Blk.new W0.drew 47 _).alloc _)
  have mDX := Lib.hid (show Blk ((W0.drew.alloc (.cells RL 47)).alloc (.cells #[.slice none 0 0, .slice none 0 0] 118)) (W0.heap.size + 1) 118 #[.slice none 0 0, .slice none 0 0] by
    have h := Blk.new (W0.drew.alloc (.cells RL 47)) 118 (#[.slice none 0 0, .slice none 0 0])
    rw [World.size_alloc] at h
    exact h)
  have HD := Lib.hid hD
  clear hD
  have hE : Below w.heap.size w ((W0.drew.alloc (.cells #[.slice none 0 0, .slice none 0 0] 118)).alloc (.cells RL 47)) := ((HB0d.out).alloc (by simp <;> omega) _).alloc (by simp <;> omega) _
  have gE := Lib.hid (show Blk ((W0.drew.alloc (.cells #[.slice none 0 0, .slice none 0 0] 118)).alloc (.cells RL 47)) w.heap.size 27 #[.slice g.sa n g.sc, .slice g.pa g.prods.length g.pc, .int .i64 g.start, .slice g.fa g.forbid.length g.fc, .slice g.wa g.follow.length g.wc] from ((HG0d.out.1).alloc _).alloc _)
  have rE := Lib.hid (show Blk ((W0.drew.alloc (.cells #[.slice none 0 0, .slice none 0 0] 118)).alloc (.cells RL 47)) (w.heap.size + 1) 118 #[.slice none 0 0, .slice none 0 0] from ((HG0d.out.2).alloc _).alloc _)
  have mEX := Lib.hid (show Blk ((W0.drew.alloc (.cells #[.slice none 0 0, .slice none 0 0] 118)).alloc (.cells RL 47)) W0.heap.size 118 #[.slice none 0 0, .slice none 0 0] from (Blk.new W0.drew 118 _).alloc _)
  have mES := Lib.hid (show Blk ((W0.drew.alloc (.cells #[.slice none 0 0, .slice none 0 0] 118)).alloc (.cells RL 47)) (W0.heap.size + 1) 47 RL by
    have h := Blk.new (W0.drew.alloc (.cells #[.slice none 0 0, .slice none 0 0] 118)) 47 (RL)
    rw [World.size_alloc] at h
    exact h)
  have HE := Lib.hid hE
  clear hE
  clear HG0 HB0
  go_cut [3] from 4 (fun s3 wx => ∃ Bx Bb Be M, s3 = .pointer (some ⟨Bx, 0, none⟩) ∧ Hid (NullP g M ∧ Beg1 g w n Bx Bb Be M wx))
  case first =>
    go_region_law (first
      | (go_simp; go_at_call 48; refine (HNu.out _ HA.out).mono ?_; rintro e wn ⟨M, Be, hM, rfl, hbe, hk, hB⟩; have hl : M.length = n := (by rw [hM.1, ← N1.out]); rw [hl]; have HM := Lib.hid hM; have HK := Lib.hid hk; have HBn := Lib.hid hB; have HGn := Lib.hid (gA.out.below hB gA.out.lt); have HRn := Lib.hid (rA.out.below hB rA.out.lt); obtain ⟨e0, e1, e2, e3, e4⟩ := cells5s HGn.out; have el := HGn.out.lt; have HLn := Lib.hid (HA.out.trans (hB.mono HA.out.size)); have Hbe := Lib.hid (Nat.lt_of_lt_of_le rA.out.lt hbe); clear hM hk hB hbe hl)
      | (go_simp; go_at_call 48; refine (HNu.out _ HB.out).mono ?_; rintro e wn ⟨M, Be, hM, rfl, hbe, hk, hB⟩; have hl : M.length = n := (by rw [hM.1, ← N1.out]); rw [hl]; have HM := Lib.hid hM; have HK := Lib.hid hk; have HBn := Lib.hid hB; have HGn := Lib.hid (gB.out.below hB gB.out.lt); have HRn := Lib.hid (rB.out.below hB rB.out.lt); obtain ⟨e0, e1, e2, e3, e4⟩ := cells5s HGn.out; have el := HGn.out.lt; have HLn := Lib.hid (HB.out.trans (hB.mono HB.out.size)); have Hbe := Lib.hid (Nat.lt_of_lt_of_le rB.out.lt hbe); have HSn := Lib.hid (mBS.out.below hB mBS.out.lt); clear hM hk hB hbe hl)
      | (go_simp; go_at_call 48; refine (HNu.out _ HC.out).mono ?_; rintro e wn ⟨M, Be, hM, rfl, hbe, hk, hB⟩; have hl : M.length = n := (by rw [hM.1, ← N1.out]); rw [hl]; have HM := Lib.hid hM; have HK := Lib.hid hk; have HBn := Lib.hid hB; have HGn := Lib.hid (gC.out.below hB gC.out.lt); have HRn := Lib.hid (rC.out.below hB rC.out.lt); obtain ⟨e0, e1, e2, e3, e4⟩ := cells5s HGn.out; have el := HGn.out.lt; have HLn := Lib.hid (HC.out.trans (hB.mono HC.out.size)); have Hbe := Lib.hid (Nat.lt_of_lt_of_le rC.out.lt hbe); have HXn := Lib.hid (mCX.out.below hB mCX.out.lt); have x0 := HXn.out.cell 0; have x1 := HXn.out.cell 1; have xl := HXn.out.lt; have f0 := HXn.out.frozen 0; have f1 := HXn.out.frozen 1; simp only [List.getElem?_toArray, List.getElem?_cons_zero, List.getElem?_cons_succ] at x0 x1; clear hM hk hB hbe hl)
      | (go_simp; go_at_call 48; refine (HNu.out _ HD.out).mono ?_; rintro e wn ⟨M, Be, hM, rfl, hbe, hk, hB⟩; have hl : M.length = n := (by rw [hM.1, ← N1.out]); rw [hl]; have HM := Lib.hid hM; have HK := Lib.hid hk; have HBn := Lib.hid hB; have HGn := Lib.hid (gD.out.below hB gD.out.lt); have HRn := Lib.hid (rD.out.below hB rD.out.lt); obtain ⟨e0, e1, e2, e3, e4⟩ := cells5s HGn.out; have el := HGn.out.lt; have HLn := Lib.hid (HD.out.trans (hB.mono HD.out.size)); have Hbe := Lib.hid (Nat.lt_of_lt_of_le rD.out.lt hbe); have HXn := Lib.hid (mDX.out.below hB mDX.out.lt); have x0 := HXn.out.cell 0; have x1 := HXn.out.cell 1; have xl := HXn.out.lt; have f0 := HXn.out.frozen 0; have f1 := HXn.out.frozen 1; simp only [List.getElem?_toArray, List.getElem?_cons_zero, List.getElem?_cons_succ] at x0 x1; have HSn := Lib.hid (mDS.out.below hB mDS.out.lt); clear hM hk hB hbe hl)
      | (go_simp; go_at_call 48; refine (HNu.out _ HE.out).mono ?_; rintro e wn ⟨M, Be, hM, rfl, hbe, hk, hB⟩; have hl : M.length = n := (by rw [hM.1, ← N1.out]); rw [hl]; have HM := Lib.hid hM; have HK := Lib.hid hk; have HBn := Lib.hid hB; have HGn := Lib.hid (gE.out.below hB gE.out.lt); have HRn := Lib.hid (rE.out.below hB rE.out.lt); obtain ⟨e0, e1, e2, e3, e4⟩ := cells5s HGn.out; have el := HGn.out.lt; have HLn := Lib.hid (HE.out.trans (hB.mono HE.out.size)); have Hbe := Lib.hid (Nat.lt_of_lt_of_le rE.out.lt hbe); have HXn := Lib.hid (mEX.out.below hB mEX.out.lt); have x0 := HXn.out.cell 0; have x1 := HXn.out.cell 1; have xl := HXn.out.lt; have f0 := HXn.out.frozen 0; have f1 := HXn.out.frozen 1; simp only [List.getElem?_toArray, List.getElem?_cons_zero, List.getElem?_cons_succ] at x0 x1; have HSn := Lib.hid (mES.out.below hB mES.out.lt); clear hM hk hB hbe hl))
    all_goals (
      go_wp2
      go_meet
      case rel =>
        have hrn := HRn.out.lt
        have hbe := Hbe.out
        first
        | with_reducible exact ⟨_, _, _, M, rfl, Lib.hid ⟨HM.out, beg_mk HRL.out HGr.out (HGn.out.alloc _) (HRn.out.alloc _) (Blk.new wn 118 _) (HSn.out.alloc _) (HK.out.alloc _) (HLn.out.alloc (by omega) _) ⟨hsz, hbe, hrn⟩⟩⟩
        | with_reducible exact ⟨_, _, _, M, rfl, Lib.hid ⟨HM.out, beg_fin HRL.out HGr.out HGn.out HRn.out HXn.out HSn.out HK.out HLn.out ⟨by omega, hbe, by omega⟩⟩⟩
        | with_reducible exact ⟨_, _, _, M, rfl, Lib.hid ⟨HM.out, beg_mk HRL.out HGr.out ((HGn.out.alloc _).alloc _) ((HRn.out.alloc _).alloc _) (blk_new2 wn _ 118 _) ((Blk.new wn 47 _).alloc _) ((HK.out.alloc _).alloc _) ((HLn.out.alloc (by omega) _).alloc (by simp; omega) _) ⟨hrn, hbe, by omega⟩⟩⟩
        | with_reducible exact ⟨_, _, _, M, rfl, Lib.hid ⟨HM.out, beg_mk HRL.out HGr.out ((HGn.out.alloc _).alloc _) ((HRn.out.alloc _).alloc _) ((Blk.new wn 118 _).alloc _) (blk_new2 wn _ 47 _) ((HK.out.alloc _).alloc _) ((HLn.out.alloc (by omega) _).alloc (by simp; omega) _) ⟨by omega, hbe, hrn⟩⟩⟩
        | with_reducible exact ⟨_, _, _, M, rfl, Lib.hid ⟨HM.out, beg_set HRL.out HGr.out HGn.out HRn.out HXn.out HK.out HLn.out ⟨hrn, hbe, by omega⟩⟩⟩)
  obtain ⟨Bx, Bb, Be, M, rfl, HT⟩ := hcut
  have hb0 : Blk wc w.heap.size 27 #[.slice g.sa n g.sc, .slice g.pa g.prods.length g.pc, .int .i64 g.start, .slice g.fa g.forbid.length g.fc, .slice g.wa g.follow.length g.wc] := by rw [← HGr.out]; exact HT.out.2.b0
  obtain ⟨c0, c1, c2, c3, c4⟩ := cells5s hb0
  have l0 := hb0.lt
  have HL1 := Lib.hid (HLi.out wc HT.out.2.low)
  unfold LivPost at HL1
  have HM := Lib.hid HT.out.1
  have HT1 := Lib.hid HT.out.2
  clear HNu HLi hb0 HT
  go_wp2_with fail
  refine HL1.out.mono ?_
  rintro e w3 ⟨L, a, c, hL, rfl, hO, hB⟩
  have hJ0 : BJ g w wc.heap.size Bx Bb Be n a c M L (List.replicate n 0#256) w3 := by
    have h := HT1.out
    exact ⟨h.bx.below hB h.bx.lt, h.bb.below hB h.bb.lt, h.be.below hB h.be.lt, h.br.below hB h.br.lt, by simp, by rw [N1.out]; exact SoundF.none g, h.low.trans (hB.mono h.low.size), hO, by have := h.hx.1; omega, h.bb.lt⟩
  have hSt := begin_steps HMA.out.1 HMA.out.2.1 HMA.out.2.2 HM.out hL (N := wc.heap.size) (Bx := Bx) (Bb := Bb) (Be := Be) (a := a) (c := c)
  rw [← N1.out] at hSt
  have HSe := Lib.hid (settle_any (livL g L) a c 103 #[.pointer (some ⟨Bx, 0, none⟩)] (fun _ _ => by kernel_rfl) (BJ g w wc.heap.size Bx Bb Be n a c M L) (QuietF M) sizeZ (Nat.le_trans (livL_len g L) (Nat.le_trans HMA.out.1.prods (by omega))) (fun F W h => h.prods HMA.out.2.2) (fun F W V h hB => h.below hB) hSt _ w3 hJ0)
  have HLv := Lib.hid hL
  have hx1 := HT1.out.hx
  clear hJ0 hSt hL hO hB HL1 c0 c1 c2 c3 c4 l0
  go_wp2_with fail
  refine HSe.out.mono ?_
  rintro e w4 ⟨rfl, F, hJ, hq⟩
  have HF := Lib.hid (firstP_of HMA.out.1 HMA.out.2.1 HM.out HLv.out (by rw [hJ.len, N1.out]) hJ.snd hq)
  have a0 := hJ.bx.cell 0
  have a1 := hJ.bx.cell 1
  have al := hJ.bx.lt
  have r0 := hJ.br.cell 0
  have r1 := hJ.br.cell 1
  have f0 := hJ.br.frozen 0
  have f1 := hJ.br.frozen 1
  have rl := hJ.br.lt
  simp only [List.getElem?_toArray, List.getElem?_cons_zero, List.getElem?_cons_succ] at a0 a1 r0 r1
  have hne1 : Bb ≠ w.heap.size + 1 := blk_ne hJ.bb hJ.br (by decide)
  have hne2 : Be ≠ w.heap.size + 1 := blk_ne hJ.be hJ.br (by decide)
  obtain ⟨V, hV⟩ : ∃ V, V = (w4.setCell ⟨w.heap.size + 1, 0, none⟩ (.slice (some ⟨Bb, 0, none⟩) n n)).setCell ⟨w.heap.size + 1, 1, none⟩ (.slice (some ⟨Be, 0, none⟩) n n) := ⟨_, rfl⟩
  have HV := Lib.hid hV
  have HEnd : Hid (Blk V (w.heap.size + 1) 118 #[.slice (some ⟨Bb, 0, none⟩) n n, .slice (some ⟨Be, 0, none⟩) n n] ∧ Blk V Bb 47 (setsC F) ∧ Blk V Be 4 (bools M) ∧ Below w.heap.size w V) := Lib.hid ⟨by rw [hV]; exact (hJ.br.set 0 (.slice (some ⟨Bb, 0, none⟩) n n)).set 1 (.slice (some ⟨Be, 0, none⟩) n n), by rw [hV]; exact (hJ.bb.other hne1 _).other hne1 _, by rw [hV]; exact (hJ.be.other hne2 _).other hne2 _, by rw [hV]; exact (hJ.low.setCell (p := ⟨w.heap.size + 1, 0, none⟩) (by show w.heap.size ≤ w.heap.size + 1; omega) _).setCell (p := ⟨w.heap.size + 1, 1, none⟩) (by show w.heap.size ≤ w.heap.size + 1; omega) _⟩
  clear hJ hq HSe hV hne1 hne2
  go_wp2
  rw [← HV.out]
  have q0 := HEnd.out.1.cell 0
  have q1 := HEnd.out.1.cell 1
  simp only [List.getElem?_toArray, List.getElem?_cons_zero, List.getElem?_cons_succ] at q0 q1
  clear HV
  refine bodyPost_ret (v := .agg #[.slice (some ⟨Bb, 0, none⟩) n n, .slice (some ⟨Be, 0, none⟩) n n]) (by simp [results, Tryz.results78, go_sem, q0, q1]) rfl ⟨F, M, Bb, Be, HF.out, HM.out, rfl, by omega, by omega, HEnd.out.2.1, HEnd.out.2.2.1, HEnd.out.2.2.2⟩
end Go.Proofs.YtodnlcbnbkkanaaGreatDoor
end
section
namespace Go.Proofs.YtodnlcbnbkkanaaGreatDoor
open Go Go.RowKit

def SetsPost (w : World) (R : List BS → Prop) (e : Ending) (w' : World) : Prop := ∃ (F : List BS) (B c : Nat) (cs : Array Value), R F ∧ F ≠ [] ∧ e = .returned (.slice (some ⟨B, 0, none⟩) F.length c) ∧ w.heap.size ≤ B ∧ Blk w' B 47 cs ∧ (∀ (k : Nat) (s : BS), F[k]? = some s → SetAt cs (k * 4) s) ∧ Below w.heap.size w w'

set_option maxRecDepth 100000 in
set_option maxHeartbeats 4000000 in
theorem first_any (g : GramM) (hm : MayB g) (hs : MaySet g) (hf : Fit g) (w : World) (hg : GIn w g) : Calls Tryz.prog 53 #[gramV g] w (SetsPost w (FirstP g)) := by
  have hB1 : Below w.heap.size w (w.alloc (.cells (gramC g) 27)) := (Below.refl _ _).alloc (Nat.le_refl _) _
  have HC := Lib.hid (beginsOf_any g hm hs hf _ (hg.below hB1))
  have HB := Lib.hid hB1
  have Hs1 := Lib.hid hm.sorts1
  unfold BegPost at HC
  clear hm hs hf hg hB1
  unfold gramV gramC at *
  go_enter Tryz.func53, Tryz.ntmps53
  go_wp2_with fail
  refine HC.out.mono ?_
  rintro e w3 ⟨F, M, Bb, Be, hF, hM, rfl, hb1, hb2, hk, _, hB3⟩
  have HF := Lib.hid hF
  have HZ : Hid (Below w.heap.size w w3 ∧ Blk w3 Bb 47 (setsC F) ∧ w.heap.size ≤ Bb) := Lib.hid ⟨HB.out.trans (hB3.mono HB.out.size), hk, Nat.le_trans HB.out.size hb1⟩
  have hfd : ∀ W : World, (Instr.field 118 (.agg #[.slice (some ⟨Bb, 0, none⟩) g.sorts.length g.sorts.length, .slice (some ⟨Be, 0, none⟩) g.sorts.length g.sorts.length]) 0).run Tryz.prog W = .ok (.slice (some ⟨Bb, 0, none⟩) g.sorts.length g.sorts.length) W := fun W => by kernel_rfl
  clear hF hM hb1 hb2 hk hB3 HC
  go_wp2
  go_ret
  exact ⟨F, Bb, g.sorts.length, setsC F, HF.out, fun h => by
    have h1 := HF.out.1
    rw [h, List.length_nil] at h1
    have := Hs1.out
    omega, by rw [HF.out.1]; rfl, HZ.out.2.2, HZ.out.2.1, fun k s h => setsC_at h, HZ.out.1⟩

def TellSets (w : World) (g : GramM) (R : List BS → Prop) (e : Ending) (w' : World) : Prop :=
  Below w.heap.size w w' ∧ ((checkB g = false ∧ e = .returned (.tuple #[.slice none 0 0, .int .i64 160])) ∨ (checkB g = true ∧ ∃ (F : List BS) (B c : Nat) (cs : Array Value), R F ∧ F ≠ [] ∧ e = .returned (.tuple #[.slice (some ⟨B, 0, none⟩) F.length c, .int .i64 0]) ∧ w.heap.size ≤ B ∧ Blk w' B 47 cs ∧ (∀ (k : Nat) (s : BS), F[k]? = some s → SetAt cs (k * 4) s)))

set_option maxRecDepth 100000 in
set_option maxHeartbeats 4000000 in
theorem answerS_any (g : GramM) (hf : FitG g) (K : Nat) (eg : ∀ args w, (callFunc K args).run Tryz.prog w = .ok (.enter K args) w) (R : List BS → Prop) (w : World) (hg : GIn w g) (H : checkB g = true → ∀ W, GIn W g → Calls Tryz.prog K #[gramV g] W (SetsPost W R)) :
    Calls Tryz.prog 52 #[gramV g, .func (.func K) #[] #[]] w (TellSets w g R) := by
  have hB1 : Below w.heap.size w (w.alloc (.cells (gramC g) 27)) := (Below.refl _ _).alloc (Nat.le_refl _) _
  have HC := Lib.hid (check_any g _ (hg.below hB1) hf)
  have HB := Lib.hid hB1
  have HK := Lib.hid (Blk.new w 27 (gramC g))
  have HG := Lib.hid hg
  obtain ⟨b, hb⟩ : ∃ b, b = checkB g := ⟨_, rfl⟩
  have HBb := Lib.hid hb
  rw [← hb] at HC
  have HH := Lib.hid (fun h W hW => H (hb.symm.trans h) W hW)
  clear hf hg hB1 hb H
  unfold gramV gramC errI at *
  go_enter Tryz.func52, Tryz.ntmps52
  go_wp2_with fail
  refine HC.out.mono ?_
  rintro e w3 ⟨rfl, hB3⟩
  have HB3 := Lib.hid (HB.out.trans (hB3.mono HB.out.size))
  have HK3 := Lib.hid (HK.out.below hB3 HK.out.lt)
  clear hB3 HC
  cases b with
  | false =>
    rw [if_neg (by decide)]
    go_wp2
    go_ret2
    exact ⟨HB3.out, .inl ⟨HBb.out.symm, rfl⟩⟩
  | true =>
    rw [if_pos rfl]
    have HC2 := Lib.hid (HH.out rfl w3 (HG.out.below HB3.out))
    obtain ⟨c0, c1, c2, c3, c4⟩ := (show Blk w3 w.heap.size 27 (gramC g) from HK3.out).gram
    have l3 := HK3.out.lt
    clear HH
    go_wp2_with fail
    refine HC2.out.mono ?_
    rintro e w4 ⟨F, B, c, cs, hR, hne, rfl, hBl, hk, hat, hB4⟩
    have HR := Lib.hid (And.intro hR hne)
    have HBl : Hid (w.heap.size ≤ B) := Lib.hid (Nat.le_trans HB3.out.size hBl)
    have HKk := Lib.hid (And.intro hk hat)
    have HB4 := Lib.hid (HB3.out.trans (hB4.mono HB3.out.size))
    clear hR hne hBl hk hat hB4 HC2
    go_wp2
    go_ret2
    exact ⟨HB4.out, .inr ⟨HBb.out.symm, F, B, c, cs, HR.out.1, HR.out.2, rfl, HBl.out, HKk.out.1, HKk.out.2⟩⟩

set_option maxRecDepth 100000 in
set_option maxHeartbeats 1000000 in
theorem First_any (g : GramM) (hf : FitG g) (w : World) (hg : GIn w g) : Calls Tryz.prog 22 #[gramV g] w (TellSets w g (FirstP g)) := by
  have hB1 : Below w.heap.size w (w.alloc (.cells (gramC g) 27)) := (Below.refl _ _).alloc (Nat.le_refl _) _
  have HC := Lib.hid (answerS_any g hf 53 (fun _ _ => by kernel_rfl) (FirstP g) _ (hg.below hB1) (fun h W hW => first_any g (mayB_of h) (maySet_of h) hf.fit W hW))
  have HB := Lib.hid hB1
  clear hf hg hB1
  unfold gramV gramC at *
  go_enter Tryz.func22, Tryz.ntmps22
  go_wp2_with fail
  refine HC.out.mono ?_
  rintro e w3 ⟨hB3, ⟨hc, rfl⟩ | ⟨hc, F, B, c, cs, hR, hne, rfl, hBl, hk, hat⟩⟩
  · have HB3 := Lib.hid (HB.out.trans (hB3.mono HB.out.size))
    have Hc := Lib.hid hc
    clear hB3 hc HC
    go_wp2
    go_ret2
    exact ⟨HB3.out, .inl ⟨Hc.out, rfl⟩⟩
  · have HB3 := Lib.hid (HB.out.trans (hB3.mono HB.out.size))
    have Hc := Lib.hid hc
    have HR := Lib.hid (And.intro hR hne)
    have HBl : Hid (w.heap.size ≤ B) := Lib.hid (Nat.le_trans HB.out.size hBl)
    have HK := Lib.hid (And.intro hk hat)
    clear hB3 hc HC hR hne hBl hk hat
    go_wp2
    go_ret2
    exact ⟨HB3.out, .inr ⟨Hc.out, F, B, c, cs, HR.out.1, HR.out.2, rfl, HBl.out, HK.out.1, HK.out.2⟩⟩
end Go.Proofs.YtodnlcbnbkkanaaGreatDoor
end
section
namespace Go.Proofs.YtodnlcbnbkkanaaGreatDoor
open Go Go.RowKit

structure BackM where
  there : Bool
  bytes : BS
  fin : Bool
def backC (b : BackM) : Array Value := #[.bool b.there, .int .u64 (wdI b.bytes 0), .int .u64 (wdI b.bytes 1), .int .u64 (wdI b.bytes 2), .int .u64 (wdI b.bytes 3), .bool b.fin]
def backV (b : BackM) : Value := .agg (backC b)
def BackM.join (a b : BackM) : BackM := ⟨a.there || b.there, a.bytes ||| b.bytes, a.fin || b.fin⟩
def backEq (a b : BackM) : Bool := a.there == b.there && (a.bytes == b.bytes && a.fin == b.fin)
theorem backEq_iff {a b : BackM} : backEq a b = true ↔ a = b := by
  obtain ⟨a1, a2, a3⟩ := a
  obtain ⟨b1, b2, b3⟩ := b
  unfold backEq
  simp
def BackAt (cs : Array Value) (off : Nat) (b : BackM) : Prop := CsAt cs off (backC b)
theorem BackAt.cells {cs : Array Value} {off : Nat} {b : BackM} (h : BackAt cs off b) : cs[off]? = some (.bool b.there) ∧ SetAt cs (off + 1) b.bytes ∧ cs[off + 5]? = some (.bool b.fin) := by
  refine ⟨by have := h 0 _ rfl; rwa [Nat.add_zero] at this, setAt_of fun j hj => ?_, h 5 _ rfl⟩
  have := h (1 + j) (.int .u64 (wdI b.bytes j)) (by
    have : j = 0 ∨ j = 1 ∨ j = 2 ∨ j = 3 := by omega
    rcases this with rfl | rfl | rfl | rfl <;> rfl)
  rw [show off + 1 + j = off + (1 + j) by omega]
  exact this
theorem backAt_of {cs : Array Value} {off : Nat} {b : BackM} (h0 : cs[off]? = some (.bool b.there)) (h1 : SetAt cs (off + 1) b.bytes) (h5 : cs[off + 5]? = some (.bool b.fin)) : BackAt cs off b := fun j v hj => by
  have hl : j < 6 := by
    have := (Array.getElem?_eq_some_iff.1 hj).1
    simpa [backC] using this
  have : j = 0 ∨ j = 1 ∨ j = 2 ∨ j = 3 ∨ j = 4 ∨ j = 5 := by omega
  rcases this with rfl | rfl | rfl | rfl | rfl | rfl
  · simp [backC] at hj; subst hj; exact h0
  · simp [backC] at hj; subst hj; exact set_cell h1 (j := 0) (by decide)
  · simp [backC] at hj; subst hj; exact set_cell h1 (j := 1) (by decide)
  · simp [backC] at hj; subst hj; exact set_cell h1 (j := 2) (by decide)
  · simp [backC] at hj; subst hj; exact set_cell h1 (j := 3) (by decide)
  · simp [backC] at hj; subst hj; exact h5
end Go.Proofs.YtodnlcbnbkkanaaGreatDoor
end
section
namespace Go.Proofs.YtodnlcbnbkkanaaGreatDoor
open Go Go.RowKit

theorem ne_some {a b : Nat} (h : a ≠ b) : some a ≠ some b := by simpa using h
def BGrowPost (w : World) (B off : Nat) (cs : Array Value) (a b : BackM) (e : Ending) (w' : World) : Prop := e = .returned (.bool (!(backEq (a.join b) a))) ∧ w.grownBy w' (some B) ∧ ∃ ds, Blk w' B 123 ds ∧ ds.size = cs.size ∧ (∀ k, k < off ∨ off + 6 ≤ k → ds[k]? = cs[k]?) ∧ BackAt ds off (a.join b)
theorem cells6b {W : World} {B t : Nat} {b : BackM} (h : Blk W B t (backC b)) : W.cell? ⟨B, 0, none⟩ = some (.bool b.there) ∧ W.cell? ⟨B, 1, none⟩ = some (.int .u64 (wdI b.bytes 0)) ∧ W.cell? ⟨B, 2, none⟩ = some (.int .u64 (wdI b.bytes 1)) ∧ W.cell? ⟨B, 3, none⟩ = some (.int .u64 (wdI b.bytes 2)) ∧ W.cell? ⟨B, 4, none⟩ = some (.int .u64 (wdI b.bytes 3)) ∧ W.cell? ⟨B, 5, none⟩ = some (.bool b.fin) := ⟨h.cell 0, h.cell 1, h.cell 2, h.cell 3, h.cell 4, h.cell 5⟩

set_option maxRecDepth 100000 in
set_option maxHeartbeats 8000000 in
theorem bgrow_any (B off : Nat) (cs : Array Value) (a b : BackM) (w : World) (hB : Blk w B 123 cs) (ho : BackAt cs off a) : Calls Tryz.prog 108 #[.pointer (some ⟨B, off, none⟩), backV b] w (BGrowPost w B off cs a b) := by
  have hBl := hB.lt
  obtain ⟨i0, iS, i5⟩ := ho.cells
  have hoff : off < cs.size := (Array.getElem?_eq_some_iff.1 i0).1
  have hoff5 : off + 5 < cs.size := (Array.getElem?_eq_some_iff.1 i5).1
  have b0 := (hB.cell off).trans i0
  have b1 := (hB.cell (off + 1 + 0)).trans (set_cell iS (j := 0) (by decide))
  have b2 := (hB.cell (off + 1 + 1)).trans (set_cell iS (j := 1) (by decide))
  have b3 := (hB.cell (off + 1 + 2)).trans (set_cell iS (j := 2) (by decide))
  have b4 := (hB.cell (off + 1 + 3)).trans (set_cell iS (j := 3) (by decide))
  have b5 := (hB.cell (off + 5)).trans i5
  simp only [Nat.add_zero, Nat.add_assoc, Nat.reduceAdd] at b1 b2 b3 b4
  have f0 := hB.frozen off
  obtain ⟨A, hA⟩ : ∃ A, A = (w.alloc (.cells (backC b) 123)).alloc (.cells (backC a) 123) := ⟨_, rfl⟩
  have HA := Lib.hid hA
  have hA0 : Blk A w.heap.size 123 (backC b) := by rw [hA]; exact (Blk.new w 123 _).alloc _
  have hA1 : Blk A (w.heap.size + 1) 123 (backC a) := by rw [hA]; exact blk_new2 w _ 123 _
  have hAB : Blk A B 123 cs := by rw [hA]; exact (hB.alloc _).alloc _
  have hAg : w.grownBy A (some B) := by rw [hA]; exact grown_trans (World.grownBy_alloc w _ _) (World.grownBy_alloc _ _ _)
  obtain ⟨W2, hW2⟩ : ∃ W2, W2 = A.setCell ⟨B, off, none⟩ (.bool (a.there || b.there)) := ⟨_, rfl⟩
  have HW2 := Lib.hid hW2
  have h20 : Blk W2 w.heap.size 123 (backC b) := by rw [hW2]; exact hA0.other (by show w.heap.size ≠ B; omega) _
  have h21 : Blk W2 (w.heap.size + 1) 123 (backC a) := by rw [hW2]; exact hA1.other (by show w.heap.size + 1 ≠ B; omega) _
  have h2B : Blk W2 B 123 (cs.setIfInBounds off (.bool (a.there || b.there))) := by rw [hW2]; exact hAB.set off _
  have h2g : w.grownBy W2 (some B) := by rw [hW2]; exact grown_trans hAg (grown_set A B _ _)
  have HF2 := Lib.hid (And.intro h20 (And.intro h21 (And.intro h2B h2g)))
  have HGr := Lib.hid (grow_any B 123 (off + 1) _ a.bytes b.bytes W2.drew h2B.drew (setAt_of fun j hj => by rw [Array.getElem?_setIfInBounds_ne (by omega)]; exact set_cell iS hj))
  have HOld := Lib.hid (And.intro hoff (And.intro hoff5 i5))
  have HEq := fun W => eq_set' 9997 (a.bytes ||| b.bytes) a.bytes W
  obtain ⟨qq, hqq⟩ : ∃ qq, qq = ((a.bytes ||| b.bytes) == a.bytes) := ⟨_, rfl⟩
  have HQQ := Lib.hid hqq
  simp only [← hqq] at HEq
  clear hqq
  have HJ : Hid (a.join b = ⟨a.there || b.there, a.bytes ||| b.bytes, a.fin || b.fin⟩) := Lib.hid rfl
  unfold BGrowPost
  obtain ⟨q, hq⟩ : ∃ q, q = backEq (a.join b) a := ⟨_, rfl⟩
  have HQ := Lib.hid hq
  rw [← hq]
  obtain ⟨d0, d1, d2, d3, d4, d5⟩ := cells6b hA0
  have e0 := (hAB.cell off).trans i0
  have ef := hAB.frozen off
  have el := hAB.lt
  have dl := hA0.lt
  clear hB ho i0 iS i5 hA hW2 h20 h21 h2B h2g hA0 hA1 hAB hAg hq
  obtain ⟨at_, ab, af⟩ := a
  obtain ⟨bt, bb, bf⟩ := b
  unfold backV
  unfold backC vset at *
  dsimp only [BackM.join] at *
  cases at_ with
  | true =>
    go_enter Tryz.func108, Tryz.ntmps108
    go_upto_region 2 with fail
    rw [← HA.out]
    clear b0 b1 b2 b3 b4 b5 f0
    go_upto_region 3 with fail
    have HW2' : Hid (W2 = A.setCell ⟨B, off, none⟩ (.bool true)) := Lib.hid HW2.out
    rw [← HW2'.out]
    go_wp2
    refine wp_region_still_tail 5 (by kernel_rfl) (by kernel_rfl) ?_
    show wpStill _ _ (World.drew W2) _ _ _
    obtain ⟨V, hV⟩ : ∃ V, V = World.drew W2 := ⟨_, rfl⟩
    have HV := Lib.hid hV
    rw [← hV]
    obtain ⟨m0, m1, m2, m3, m4, m5⟩ := cells6q (show Blk V w.heap.size 123 _ by rw [hV]; exact HF2.out.1.drew)
    have ml : w.heap.size < V.heap.size := by rw [hV]; exact HF2.out.1.lt
    rw [← hV] at HGr
    clear hV d0 d1 d2 d3 d4 d5 dl e0 ef el
    simp only [List.take_succ_cons, List.take_zero, List.drop_succ_cons, List.drop_zero]
    repeat still_step
    refine wpStill_nil ?_
    show wpList _ _ _ _ _ (World.drew W2)
    rw [← HV.out]
    clear m0 m1 m2 m3 m4 m5 ml
    go_wp2_with fail
    refine HGr.out.mono ?_
    rintro e w5 ⟨rfl, hg5, ds, hd1, hd2, hd3, hd4⟩
    have hg : w.grownBy w5 (some B) := grown_trans HF2.out.2.2.2 (by rw [HV.out] at hg5; exact grown_trans (grown_below (Below.refl W2.heap.size W2).drew _) hg5)
    have k0 : Blk w5 w.heap.size 123 _ := (show Blk V w.heap.size 123 _ by rw [HV.out]; exact HF2.out.1.drew).kept hg5 (ne_some (by omega))
    have k1 : Blk w5 (w.heap.size + 1) 123 _ := (show Blk V (w.heap.size + 1) 123 _ by rw [HV.out]; exact HF2.out.2.1.drew).kept hg5 (ne_some (by omega))
    rw [Array.size_setIfInBounds] at hd2
    have hds0 : ds[off]? = some (.bool true) := by rw [hd3 off (by omega), Array.getElem?_setIfInBounds_self_of_lt HOld.out.1]; rfl
    have hds5 : ds[off + 5]? = some (.bool af) := by rw [hd3 (off + 5) (by omega), Array.getElem?_setIfInBounds_ne (by omega)]; exact HOld.out.2.2
    obtain ⟨m0, m1, m2, m3, m4, m5⟩ := cells6q k0
    have ml := k0.lt
    have g5 := (hd1.cell (off + 5)).trans hds5
    have gf := hd1.frozen (off + 5)
    have gl := hd1.lt
    obtain ⟨W6, hW6⟩ : ∃ W6, W6 = w5.setCell ⟨B, off + 5, none⟩ (.bool (af || bf)) := ⟨_, rfl⟩
    have HW6 := Lib.hid hW6
    have h6B : Blk W6 B 123 (ds.setIfInBounds (off + 5) (.bool (af || bf))) := by rw [hW6]; exact hd1.set _ _
    have h61 : Blk W6 (w.heap.size + 1) 123 #[.bool true, .int .u64 (wdI ab 0), .int .u64 (wdI ab 1), .int .u64 (wdI ab 2), .int .u64 (wdI ab 3), .bool af] := by rw [hW6]; exact k1.other (by show w.heap.size + 1 ≠ B; omega) _
    have h6g : w.grownBy W6 (some B) := by rw [hW6]; exact grown_trans hg (grown_set w5 B _ _)
    have hat : BackAt (ds.setIfInBounds (off + 5) (.bool (af || bf))) off ⟨true, ab ||| bb, af || bf⟩ := backAt_of (by rw [Array.getElem?_setIfInBounds_ne (by omega)]; exact hds0) (setAt_of fun j hj => by rw [Array.getElem?_setIfInBounds_ne (by omega)]; exact set_cell hd4 hj) (by rw [Array.getElem?_setIfInBounds_self_of_lt (by rw [hd2]; exact HOld.out.2.1)])
    have HEnd : Hid (∀ m : Nat, w.grownBy (W6.drewN m) (some B) ∧ ∃ ds, Blk (W6.drewN m) B 123 ds ∧ ds.size = cs.size ∧ (∀ k, k < off ∨ off + 6 ≤ k → ds[k]? = cs[k]?) ∧ BackAt ds off ⟨true, ab ||| bb, af || bf⟩) := Lib.hid (fun m => by
      have hbel := below_drewN (Below.refl W6.heap.size W6) m
      exact ⟨grown_trans h6g (grown_below hbel _), _, h6B.below hbel h6B.lt, by rw [Array.size_setIfInBounds, hd2], fun k hk => by rw [Array.getElem?_setIfInBounds_ne (by omega), hd3 k (by omega), Array.getElem?_setIfInBounds_ne (by omega)], hat⟩)
    obtain ⟨o0, oS, o5⟩ := hat.cells
    have p0 := (h6B.cell off).trans o0
    have p1 := (h6B.cell (off + 1 + 0)).trans (set_cell oS (j := 0) (by decide))
    have p2 := (h6B.cell (off + 1 + 1)).trans (set_cell oS (j := 1) (by decide))
    have p3 := (h6B.cell (off + 1 + 2)).trans (set_cell oS (j := 2) (by decide))
    have p4 := (h6B.cell (off + 1 + 3)).trans (set_cell oS (j := 3) (by decide))
    have p5 := (h6B.cell (off + 5)).trans o5
    simp only [Nat.add_zero, Nat.add_assoc, Nat.reduceAdd] at p1 p2 p3 p4
    obtain ⟨r0, r1, r2, r3, r4, r5⟩ := cells6q h61
    have rl := h61.lt
    have pl := h6B.lt
    clear hg5 hd1 hd2 hd3 hd4 hg k0 k1 hds0 hds5 h6B h61 h6g hat o0 oS o5 hW6 HGr HF2 HOld HV
    cases af with
    | true =>
      have HW6' : Hid (W6 = w5.setCell ⟨B, off + 5, none⟩ (.bool true)) := Lib.hid HW6.out
      go_upto_region 5 with fail
      rw [← HW6'.out]
      clear g5 gf gl m0 m1 m2 m3 m4 m5 ml
      cases bt <;> cases bf <;> cases qq <;> (
        go_wp2
        go_region
        all_goals (
          go_wp2
          go_ret
          first | exact ⟨by rw [HQ.out]; simp [backEq, ← HQQ.out], HEnd.out 1⟩ | exact ⟨by rw [HQ.out]; simp [backEq, ← HQQ.out], HEnd.out 2⟩))
    | false =>
      have HW6' : Hid (W6 = w5.setCell ⟨B, off + 5, none⟩ (.bool bf)) := Lib.hid HW6.out
      go_upto_region 5 with fail
      rw [← HW6'.out]
      clear g5 gf gl m0 m1 m2 m3 m4 m5 ml
      cases bt <;> cases bf <;> cases qq <;> (
        go_wp2
        go_region
        all_goals (
          go_wp2
          go_ret
          first | exact ⟨by rw [HQ.out]; simp [backEq, ← HQQ.out], HEnd.out 1⟩ | exact ⟨by rw [HQ.out]; simp [backEq, ← HQQ.out], HEnd.out 2⟩))
  | false =>
    go_enter Tryz.func108, Tryz.ntmps108
    go_upto_region 2 with fail
    rw [← HA.out]
    clear b0 b1 b2 b3 b4 b5 f0
    go_upto_region 3 with fail
    have HW2' : Hid (W2 = A.setCell ⟨B, off, none⟩ (.bool bt)) := Lib.hid HW2.out
    rw [← HW2'.out]
    go_wp2
    refine wp_region_still_tail 5 (by kernel_rfl) (by kernel_rfl) ?_
    show wpStill _ _ (World.drew W2) _ _ _
    obtain ⟨V, hV⟩ : ∃ V, V = World.drew W2 := ⟨_, rfl⟩
    have HV := Lib.hid hV
    rw [← hV]
    obtain ⟨m0, m1, m2, m3, m4, m5⟩ := cells6q (show Blk V w.heap.size 123 _ by rw [hV]; exact HF2.out.1.drew)
    have ml : w.heap.size < V.heap.size := by rw [hV]; exact HF2.out.1.lt
    rw [← hV] at HGr
    clear hV d0 d1 d2 d3 d4 d5 dl e0 ef el
    simp only [List.take_succ_cons, List.take_zero, List.drop_succ_cons, List.drop_zero]
    repeat still_step
    refine wpStill_nil ?_
    show wpList _ _ _ _ _ (World.drew W2)
    rw [← HV.out]
    clear m0 m1 m2 m3 m4 m5 ml
    go_wp2_with fail
    refine HGr.out.mono ?_
    rintro e w5 ⟨rfl, hg5, ds, hd1, hd2, hd3, hd4⟩
    have hg : w.grownBy w5 (some B) := grown_trans HF2.out.2.2.2 (by rw [HV.out] at hg5; exact grown_trans (grown_below (Below.refl W2.heap.size W2).drew _) hg5)
    have k0 : Blk w5 w.heap.size 123 _ := (show Blk V w.heap.size 123 _ by rw [HV.out]; exact HF2.out.1.drew).kept hg5 (ne_some (by omega))
    have k1 : Blk w5 (w.heap.size + 1) 123 _ := (show Blk V (w.heap.size + 1) 123 _ by rw [HV.out]; exact HF2.out.2.1.drew).kept hg5 (ne_some (by omega))
    rw [Array.size_setIfInBounds] at hd2
    have hds0 : ds[off]? = some (.bool bt) := by rw [hd3 off (by omega), Array.getElem?_setIfInBounds_self_of_lt HOld.out.1]; rfl
    have hds5 : ds[off + 5]? = some (.bool af) := by rw [hd3 (off + 5) (by omega), Array.getElem?_setIfInBounds_ne (by omega)]; exact HOld.out.2.2
    obtain ⟨m0, m1, m2, m3, m4, m5⟩ := cells6q k0
    have ml := k0.lt
    have g5 := (hd1.cell (off + 5)).trans hds5
    have gf := hd1.frozen (off + 5)
    have gl := hd1.lt
    obtain ⟨W6, hW6⟩ : ∃ W6, W6 = w5.setCell ⟨B, off + 5, none⟩ (.bool (af || bf)) := ⟨_, rfl⟩
    have HW6 := Lib.hid hW6
    have h6B : Blk W6 B 123 (ds.setIfInBounds (off + 5) (.bool (af || bf))) := by rw [hW6]; exact hd1.set _ _
    have h61 : Blk W6 (w.heap.size + 1) 123 #[.bool false, .int .u64 (wdI ab 0), .int .u64 (wdI ab 1), .int .u64 (wdI ab 2), .int .u64 (wdI ab 3), .bool af] := by rw [hW6]; exact k1.other (by show w.heap.size + 1 ≠ B; omega) _
    have h6g : w.grownBy W6 (some B) := by rw [hW6]; exact grown_trans hg (grown_set w5 B _ _)
    have hat : BackAt (ds.setIfInBounds (off + 5) (.bool (af || bf))) off ⟨bt, ab ||| bb, af || bf⟩ := backAt_of (by rw [Array.getElem?_setIfInBounds_ne (by omega)]; exact hds0) (setAt_of fun j hj => by rw [Array.getElem?_setIfInBounds_ne (by omega)]; exact set_cell hd4 hj) (by rw [Array.getElem?_setIfInBounds_self_of_lt (by rw [hd2]; exact HOld.out.2.1)])
    have HEnd : Hid (∀ m : Nat, w.grownBy (W6.drewN m) (some B) ∧ ∃ ds, Blk (W6.drewN m) B 123 ds ∧ ds.size = cs.size ∧ (∀ k, k < off ∨ off + 6 ≤ k → ds[k]? = cs[k]?) ∧ BackAt ds off ⟨bt, ab ||| bb, af || bf⟩) := Lib.hid (fun m => by
      have hbel := below_drewN (Below.refl W6.heap.size W6) m
      exact ⟨grown_trans h6g (grown_below hbel _), _, h6B.below hbel h6B.lt, by rw [Array.size_setIfInBounds, hd2], fun k hk => by rw [Array.getElem?_setIfInBounds_ne (by omega), hd3 k (by omega), Array.getElem?_setIfInBounds_ne (by omega)], hat⟩)
    obtain ⟨o0, oS, o5⟩ := hat.cells
    have p0 := (h6B.cell off).trans o0
    have p1 := (h6B.cell (off + 1 + 0)).trans (set_cell oS (j := 0) (by decide))
    have p2 := (h6B.cell (off + 1 + 1)).trans (set_cell oS (j := 1) (by decide))
    have p3 := (h6B.cell (off + 1 + 2)).trans (set_cell oS (j := 2) (by decide))
    have p4 := (h6B.cell (off + 1 + 3)).trans (set_cell oS (j := 3) (by decide))
    have p5 := (h6B.cell (off + 5)).trans o5
    simp only [Nat.add_zero, Nat.add_assoc, Nat.reduceAdd] at p1 p2 p3 p4
    obtain ⟨r0, r1, r2, r3, r4, r5⟩ := cells6q h61
    have rl := h61.lt
    have pl := h6B.lt
    clear hg5 hd1 hd2 hd3 hd4 hg k0 k1 hds0 hds5 h6B h61 h6g hat o0 oS o5 hW6 HGr HF2 HOld HV
    cases af with
    | true =>
      have HW6' : Hid (W6 = w5.setCell ⟨B, off + 5, none⟩ (.bool true)) := Lib.hid HW6.out
      go_upto_region 5 with fail
      rw [← HW6'.out]
      clear g5 gf gl m0 m1 m2 m3 m4 m5 ml
      cases bt <;> cases bf <;> cases qq <;> (
        go_wp2
        go_region
        all_goals (
          go_wp2
          go_ret
          first | exact ⟨by rw [HQ.out]; simp [backEq, ← HQQ.out], HEnd.out 1⟩ | exact ⟨by rw [HQ.out]; simp [backEq, ← HQQ.out], HEnd.out 2⟩))
    | false =>
      have HW6' : Hid (W6 = w5.setCell ⟨B, off + 5, none⟩ (.bool bf)) := Lib.hid HW6.out
      go_upto_region 5 with fail
      rw [← HW6'.out]
      clear g5 gf gl m0 m1 m2 m3 m4 m5 ml
      cases bt <;> cases bf <;> cases qq <;> (
        go_wp2
        go_region
        all_goals (
          go_wp2
          go_ret
          first | exact ⟨by rw [HQ.out]; simp [backEq, ← HQQ.out], HEnd.out 1⟩ | exact ⟨by rw [HQ.out]; simp [backEq, ← HQQ.out], HEnd.out 2⟩))
end Go.Proofs.YtodnlcbnbkkanaaGreatDoor
end
section
namespace Go.Proofs.YtodnlcbnbkkanaaGreatDoor
open Go Go.RowKit

def aheadM (b : BackM) (s : BS) (e : Bool) : BackM := if e then ⟨b.there, b.bytes ||| s, b.fin⟩ else ⟨b.there, s, false⟩

set_option maxRecDepth 100000 in
set_option maxHeartbeats 8000000 in
theorem ahead_any (b : BackM) (s : BS) (e : Bool) (w : World) : Calls Tryz.prog 109 #[backV b, vset s, .bool e] w fun r w' => r = .returned (backV (aheadM b s e)) ∧ Below w.heap.size w w' := by
  obtain ⟨W, hW⟩ : ∃ W, W = ((w.alloc (.cells (backC b) 123)).alloc (.cells (cset s) 47)).alloc (.cells #[.bool false, .int .u64 0, .int .u64 0, .int .u64 0, .int .u64 0, .bool false] 123) := ⟨_, rfl⟩
  have HW := Lib.hid hW
  have k0 : Blk W w.heap.size 123 (backC b) := by rw [hW]; exact ((Blk.new w 123 _).alloc _).alloc _
  have k1 : Blk W (w.heap.size + 1) 47 (cset s) := by rw [hW]; exact (blk_new2 w _ 47 _).alloc _
  have k2 : Blk W (w.heap.size + 1 + 1) 123 #[.bool false, .int .u64 0, .int .u64 0, .int .u64 0, .int .u64 0, .bool false] := by
    have h := blk_new2 (w.alloc (.cells (backC b) 123)) (.cells (cset s) 47) 123 #[.bool false, .int .u64 0, .int .u64 0, .int .u64 0, .int .u64 0, .bool false]
    rw [World.size_alloc] at h
    rw [hW]; exact h
  have kb : Below w.heap.size w W := by rw [hW]; exact (((Below.refl _ _).alloc (Nat.le_refl _) _).alloc (by simp) _).alloc (by simp; omega) _
  have hlow : w.heap.size ≤ w.heap.size + 1 + 1 := by omega
  clear hW
  cases e with
  | false =>
    have e1 : aheadM b s false = ⟨b.there, s, false⟩ := rfl
    rw [e1]
    obtain ⟨bt, bb, bf⟩ := b
    unfold backV at *
    unfold backC vset cset at *
    dsimp only at *
    obtain ⟨X, hX⟩ : ∃ X, X = (((((W.setCell ⟨w.heap.size + 1 + 1, 0, none⟩ (.bool bt)).setCell ⟨w.heap.size + 1 + 1, 1, none⟩ (.int .u64 (wdI s 0))).setCell ⟨w.heap.size + 1 + 1, 2, none⟩ (.int .u64 (wdI s 1))).setCell ⟨w.heap.size + 1 + 1, 3, none⟩ (.int .u64 (wdI s 2))).setCell ⟨w.heap.size + 1 + 1, 4, none⟩ (.int .u64 (wdI s 3))).setCell ⟨w.heap.size + 1 + 1, 5, none⟩ (.bool false) := ⟨_, rfl⟩
    have HX := Lib.hid hX
    have x2 : Blk X (w.heap.size + 1 + 1) 123 #[.bool bt, .int .u64 (wdI s 0), .int .u64 (wdI s 1), .int .u64 (wdI s 2), .int .u64 (wdI s 3), .bool false] := by rw [hX]; exact (((((k2.set 0 (.bool bt)).set 1 (.int .u64 (wdI s 0))).set 2 (.int .u64 (wdI s 1))).set 3 (.int .u64 (wdI s 2))).set 4 (.int .u64 (wdI s 3))).set 5 (.bool false)
    have xb : Below w.heap.size w X := by rw [hX]; exact (((((kb.setCell (p := ⟨w.heap.size + 1 + 1, 0, none⟩) hlow _).setCell (p := ⟨w.heap.size + 1 + 1, 1, none⟩) hlow _).setCell (p := ⟨w.heap.size + 1 + 1, 2, none⟩) hlow _).setCell (p := ⟨w.heap.size + 1 + 1, 3, none⟩) hlow _).setCell (p := ⟨w.heap.size + 1 + 1, 4, none⟩) hlow _).setCell (p := ⟨w.heap.size + 1 + 1, 5, none⟩) hlow _
    have HXb := Lib.hid (And.intro x2 xb)
    have a0 := k0.cell 0
    have al := k0.lt
    simp only [List.getElem?_toArray, List.getElem?_cons_zero] at a0
    obtain ⟨m0, m1, m2, m3⟩ := cells4q k1
    have ml := k1.lt
    obtain ⟨r0, r1, r2, r3, r4, r5⟩ := cells6q k2
    have f0 := k2.frozen 0
    have f1 := k2.frozen 1
    have f2 := k2.frozen 2
    have f3 := k2.frozen 3
    have f4 := k2.frozen 4
    have f5 := k2.frozen 5
    have rl := k2.lt
    clear k0 k1 k2 kb hX x2 xb
    go_enter Tryz.func109, Tryz.ntmps109
    go_upto_region 2 with fail
    rw [← HW.out]
    go_wp2
    rw [← HX.out]
    obtain ⟨q0, q1, q2, q3, q4, q5⟩ := cells6q HXb.out.1
    refine bodyPost_ret (v := .agg #[.bool bt, .int .u64 (wdI s 0), .int .u64 (wdI s 1), .int .u64 (wdI s 2), .int .u64 (wdI s 3), .bool false]) (by simp [results, Tryz.results109, go_sem, q0, q1, q2, q3, q4, q5]) rfl ⟨rfl, HXb.out.2⟩
  | true =>
    have e1 : aheadM b s true = ⟨b.there, b.bytes ||| s, b.fin⟩ := rfl
    rw [e1]
    have HGr := Lib.hid (grow_any w.heap.size 123 1 (backC b) b.bytes s W k0 (setAt_of fun j hj => by
      have : j = 0 ∨ j = 1 ∨ j = 2 ∨ j = 3 := by omega
      rcases this with rfl | rfl | rfl | rfl <;> rfl))
    obtain ⟨bt, bb, bf⟩ := b
    unfold backV at *
    unfold backC vset cset at *
    dsimp only at *
    have HK := Lib.hid (And.intro k0 (And.intro k1 (And.intro k2 kb)))
    obtain ⟨m0, m1, m2, m3⟩ := cells4q k1
    have ml := k1.lt
    clear k0 k1 k2 kb
    go_enter Tryz.func109, Tryz.ntmps109
    go_upto_region 3 with fail
    rw [← HW.out]
    go_wp2_with fail
    refine HGr.out.mono ?_
    rintro r w5 ⟨rfl, hg5, ds, hd1, hd2, hd3, hd4⟩
    have g0 : ds = #[.bool bt, .int .u64 (wdI (bb ||| s) 0), .int .u64 (wdI (bb ||| s) 1), .int .u64 (wdI (bb ||| s) 2), .int .u64 (wdI (bb ||| s) 3), .bool bf] := by
      apply Array.ext_getElem?
      intro k
      by_cases hk : k < 6
      · have : k = 0 ∨ k = 1 ∨ k = 2 ∨ k = 3 ∨ k = 4 ∨ k = 5 := by omega
        rcases this with rfl | rfl | rfl | rfl | rfl | rfl
        · rw [hd3 0 (by omega)]; rfl
        · exact set_cell hd4 (j := 0) (by decide)
        · exact set_cell hd4 (j := 1) (by decide)
        · exact set_cell hd4 (j := 2) (by decide)
        · exact set_cell hd4 (j := 3) (by decide)
        · rw [hd3 5 (by omega)]; rfl
      · rw [Array.getElem?_eq_none (by rw [hd2]; show 6 ≤ k; omega), Array.getElem?_eq_none (by show 6 ≤ k; omega)]
    subst g0
    have kb := HK.out.2.2.2.grown hg5 HK.out.2.2.2.size (fun k e => by cases e; exact Nat.le_refl _)
    have k2 := HK.out.2.2.1.kept hg5 (by simp; omega)
    obtain ⟨a0, a1, a2, a3, a4, a5⟩ := cells6q hd1
    have al := hd1.lt
    obtain ⟨r0, r1, r2, r3, r4, r5⟩ := cells6q k2
    have f0 := k2.frozen 0
    have f1 := k2.frozen 1
    have f2 := k2.frozen 2
    have f3 := k2.frozen 3
    have f4 := k2.frozen 4
    have f5 := k2.frozen 5
    have rl := k2.lt
    obtain ⟨X, hX⟩ : ∃ X, X = (((((w5.setCell ⟨w.heap.size + 1 + 1, 0, none⟩ (.bool bt)).setCell ⟨w.heap.size + 1 + 1, 1, none⟩ (.int .u64 (wdI (bb ||| s) 0))).setCell ⟨w.heap.size + 1 + 1, 2, none⟩ (.int .u64 (wdI (bb ||| s) 1))).setCell ⟨w.heap.size + 1 + 1, 3, none⟩ (.int .u64 (wdI (bb ||| s) 2))).setCell ⟨w.heap.size + 1 + 1, 4, none⟩ (.int .u64 (wdI (bb ||| s) 3))).setCell ⟨w.heap.size + 1 + 1, 5, none⟩ (.bool bf) := ⟨_, rfl⟩
    have HX := Lib.hid hX
    have x2 : Blk X (w.heap.size + 1 + 1) 123 #[.bool bt, .int .u64 (wdI (bb ||| s) 0), .int .u64 (wdI (bb ||| s) 1), .int .u64 (wdI (bb ||| s) 2), .int .u64 (wdI (bb ||| s) 3), .bool bf] := by rw [hX]; exact (((((k2.set 0 (.bool bt)).set 1 (.int .u64 (wdI (bb ||| s) 0))).set 2 (.int .u64 (wdI (bb ||| s) 1))).set 3 (.int .u64 (wdI (bb ||| s) 2))).set 4 (.int .u64 (wdI (bb ||| s) 3))).set 5 (.bool bf)
    have xb : Below w.heap.size w X := by rw [hX]; exact (((((kb.setCell (p := ⟨w.heap.size + 1 + 1, 0, none⟩) hlow _).setCell (p := ⟨w.heap.size + 1 + 1, 1, none⟩) hlow _).setCell (p := ⟨w.heap.size + 1 + 1, 2, none⟩) hlow _).setCell (p := ⟨w.heap.size + 1 + 1, 3, none⟩) hlow _).setCell (p := ⟨w.heap.size + 1 + 1, 4, none⟩) hlow _).setCell (p := ⟨w.heap.size + 1 + 1, 5, none⟩) hlow _
    have HXb := Lib.hid (And.intro x2 xb)
    clear hg5 hd1 hd2 hd3 hd4 kb k2 hX x2 xb HK HGr
    go_wp2
    rw [← HX.out]
    obtain ⟨q0, q1, q2, q3, q4, q5⟩ := cells6q HXb.out.1
    refine bodyPost_ret (v := .agg #[.bool bt, .int .u64 (wdI (bb ||| s) 0), .int .u64 (wdI (bb ||| s) 1), .int .u64 (wdI (bb ||| s) 2), .int .u64 (wdI (bb ||| s) 3), .bool bf]) (by simp [results, Tryz.results109, go_sem, q0, q1, q2, q3, q4, q5]) rfl ⟨rfl, HXb.out.2⟩

theorem backward_sym (a : Option Addr) (n c : Nat) (w : World) : Calls Tryz.prog 107 #[.slice a n c] w fun e w' => e = .returned (.func (.func 134) #[] #[.pointer (some ⟨w.heap.size, 0, none⟩)]) ∧ w' = w.alloc (.cells #[.slice a n c] 62) := by
  go_enter Tryz.func107, Tryz.ntmps107
  go_wp2
  go_ret
  exact ⟨rfl, rfl⟩

def bkS (l : List SymM) (m : Nat) : List (Nat × SymM) := ((l.take m).zipIdx.map fun p => (p.2, p.1)).reverse
theorem bkS_succ (l : List SymM) (m : Nat) (x : SymM) (h : l[m]? = some x) : bkS l (m + 1) = (m, x) :: bkS l m := by
  have hm : m < l.length := (List.getElem?_eq_some_iff.1 h).1
  unfold bkS
  rw [List.take_add_one, h]
  simp only [Option.toList_some, List.zipIdx_append, List.map_append, List.reverse_append, List.length_take, Nat.min_eq_left (Nat.le_of_lt hm)]
  simp
def encS (x : Nat × SymM) : Array Value := #[.int .i64 x.1, symV x.2]

set_option maxRecDepth 100000 in
set_option maxHeartbeats 4000000 in
theorem backs_low (n : Nat) (hn : 1 ≤ n) (Bn : Nat) (a : Option Addr) (c : Nat) (l : List SymM) (hl : l.length ≤ 1048576) (w : World) :
    LowSeq n Tryz.prog 134 #[.pointer (some ⟨Bn, 0, none⟩)] encS (bkS l l.length) (fun A => A.cell? ⟨Bn, 0, none⟩ = some (.slice a l.length c) ∧ RowSym A a l) w := by
  intro L J Jx W hW hR hJ hJx hY h0
  have HR := Lib.hid hR
  have HY := Lib.hid hY
  obtain ⟨hBn, _⟩ := hR _ _ h0
  clear hR hY hJ hJx
  refine callsIn_of_wp Tryz.func134 rfl trivial ?_ rfl
  simp only [Tryz.ntmps134, List.size_toArray, List.length_cons, List.length_nil, Nat.reduceAdd, Nat.reduceSub, Array.replicate_succ, Array.replicate_zero, List.push_toArray, List.append_toArray, List.nil_append, List.cons_append]
  gi_wp2
  gi_loopw [3] (fun p wr => ∃ (pre : List (Nat × SymM)) (m : Nat) (z : Int), p = .int .i64 z ∧ z + 1 = m ∧ m ≤ l.length ∧ Hid (bkS l l.length = pre ++ bkS l m) ∧ J pre wr)
    (fun p _ => (intOf p + 1).toNat)
  case atStart => exact ⟨[], l.length, _, rfl, by omega, Nat.le_refl _, Lib.hid rfl, h0⟩
  case round =>
    clear h0 hBn
    obtain ⟨pre, m, z, rfl, hz, hm, hx, hJs⟩ := hrel
    obtain ⟨hcell, hrow⟩ := HR.out _ _ hJs
    by_cases hneg : z < 0
    · obtain rfl : m = 0 := by omega
      have hx2 : Hid (bkS l l.length = pre) := Lib.hid (by rw [hx.out]; simp [bkS])
      clear hz hx hrow
      gi_wp2
      go_end0
      exact ⟨⟨_, rfl⟩, .inl (by rw [hx2.out]; exact hJs)⟩
    · obtain ⟨k, rfl⟩ := Int.eq_ofNat_of_zero_le (a := z) (by omega)
      obtain rfl : m = k + 1 := by omega
      obtain ⟨x, hxk⟩ : ∃ x, l[k]? = some x := ⟨_, List.getElem?_eq_getElem (by omega)⟩
      have hs : Hid (bkS l (k + 1) = (k, x) :: bkS l k) := Lib.hid (bkS_succ l k x hxk)
      obtain ⟨b, off, rfl, hbw, hc, _⟩ := hrow k x hxk
      obtain ⟨s0, s1, s2, s3, s4, s5⟩ := Sym_at hc
      have hkl : (k : Int) < (l.length : Int) := by omega
      obtain ⟨fn, tmps, assign, body, hy, hRd⟩ := HY.out pre (k, x) wr (by rw [hx.out, hs.out]; exact ⟨bkS l k, by simp⟩) hJs
      have HRd := Lib.hid hRd
      have hx3 : Hid (bkS l l.length = (pre ++ [(k, x)]) ++ bkS l k) := Lib.hid (by rw [hx.out, hs.out]; simp)
      have hk2 : k ≤ l.length := by omega
      dsimp only [encS] at hy
      unfold symV symC at hy
      clear hrow hc hs hx hxk hm hz hneg hRd
      gi_wp2
      refine HRd.out.mono ?_
      rintro e W3 (⟨rfl, hJ3, _⟩ | ⟨rfl, hJx3, _⟩)
      · gi_wp2
        go_roundw
        case rel => exact ⟨pre ++ [(k, x)], k, (k : Int) - 1, by simp, by omega, hk2, hx3, hJ3⟩
        case measure => simp [intOf]
      · gi_wp2
        refine bodyPost_ret (results_none rfl _ _ _) rfl ?_
        exact ⟨⟨_, rfl⟩, .inr ⟨_, by rw [hx3.out]; exact List.prefix_append _ _, hJx3⟩⟩
end Go.Proofs.YtodnlcbnbkkanaaGreatDoor
end
section
namespace Go.Proofs.YtodnlcbnbkkanaaGreatDoor
open Go Go.RowKit

def backsC (L : List BackM) : Array Value := (cellsL backC L).toArray
theorem backsC_size (L : List BackM) : (backsC L).size = L.length * 6 := by unfold backsC; rw [List.size_toArray]; exact cellsL_length (cs := backC) (fun _ => rfl) L
theorem backsC_at {L : List BackM} {k : Nat} {b : BackM} (h : L[k]? = some b) : BackAt (backsC L) (k * 6) b := fun j v hj => by
  have hl : j < 6 := by
    have := (Array.getElem?_eq_some_iff.1 hj).1
    simpa [backC] using this
  unfold backsC
  rw [List.getElem?_toArray, cellsL_at (cs := backC) (k := 6) (fun _ => rfl) L k b h j hl]
  exact hj
theorem back_cell {cs : Array Value} {off : Nat} {b : BackM} (h : BackAt cs off b) {j : Nat} (hj : j < 6) : cs[off + j]? = (backC b)[j]? := by
  have hl : j < (backC b).size := hj
  rw [h j _ (Array.getElem?_eq_getElem hl), Array.getElem?_eq_getElem hl]
theorem backsC_put {F : List BackM} {k : Nat} {ds : Array Value} {t : BackM} (hk : k < F.length) (hsz : ds.size = (backsC F).size) (ho : ∀ j, j < k * 6 ∨ k * 6 + 6 ≤ j → ds[j]? = (backsC F)[j]?) (hs : BackAt ds (k * 6) t) : ds = backsC (F.set k t) := by
  apply Array.ext_getElem?
  intro j
  by_cases hj : j < F.length * 6
  · have hq : j / 6 < F.length := by omega
    have e : j = j / 6 * 6 + j % 6 := by omega
    by_cases ek : j / 6 = k
    · have h1 := back_cell hs (j := j % 6) (by omega)
      have h2 := back_cell (backsC_at (L := F.set k t) (k := k) (b := t) (List.getElem?_set_self hk)) (j := j % 6) (by omega)
      rw [ek] at e
      rw [e, h1, h2]
    · obtain ⟨s, hs'⟩ : ∃ s, F[j / 6]? = some s := ⟨_, List.getElem?_eq_getElem hq⟩
      have h2 := back_cell (backsC_at (L := F.set k t) (k := j / 6) (b := s) (by rw [List.getElem?_set_ne (by omega)]; exact hs')) (j := j % 6) (by omega)
      have h3 := back_cell (backsC_at hs') (j := j % 6) (by omega)
      rw [ho j (by omega)]
      rw [← e] at h2 h3
      rw [h2, h3]
  · have h1 : ds[j]? = none := Array.getElem?_eq_none (by rw [hsz, backsC_size]; omega)
    have h2 : (backsC (F.set k t))[j]? = none := Array.getElem?_eq_none (by rw [backsC_size, List.length_set]; omega)
    rw [h1, h2]
def cntB (b : BackM) : Nat := (if b.there then 0 else 1) + cntZ b.bytes + (if b.fin then 0 else 1)
theorem cntB_join {a b : BackM} (h : a.join b ≠ a) : cntB (a.join b) < cntB a := by
  obtain ⟨a1, a2, a3⟩ := a
  obtain ⟨b1, b2, b3⟩ := b
  unfold cntB BackM.join at *
  dsimp only at *
  by_cases h2 : a2 ||| b2 = a2
  · rw [h2] at h ⊢
    cases a1 <;> cases a3 <;> cases b1 <;> cases b3 <;> simp at h ⊢ <;> omega
  · have := cntZ_or h2
    cases a1 <;> cases a3 <;> cases b1 <;> cases b3 <;> simp <;> omega
def sizeB (L : List BackM) : Nat := (L.map cntB).foldr (· + ·) 0
theorem sizeB_cons (s : BackM) (L : List BackM) : sizeB (s :: L) = cntB s + sizeB L := rfl
theorem sizeB_set : ∀ {L : List BackM} {k : Nat} {s t : BackM}, L[k]? = some s → cntB t < cntB s → sizeB (L.set k t) < sizeB L := by
  intro L
  induction L with
  | nil => intro k s t h; simp at h
  | cons a r ih =>
    intro k s t h hl
    cases k with
    | zero => simp at h; subst h; rw [List.set_cons_zero, sizeB_cons, sizeB_cons]; omega
    | succ k =>
      rw [List.set_cons_succ, sizeB_cons, sizeB_cons]
      have := ih (k := k) (by simpa using h) hl
      omega
def noB : BackM := ⟨false, 0#256, false⟩
def hereL (F : List BS) (M : List Bool) (b : BackM) : List SymM → BackM
  | [] => b
  | s :: t => aheadM (hereL F M b t) (symF F s) (symE M s)
theorem hereL_drop {F : List BS} {M : List Bool} {b : BackM} {l : List SymM} {i : Nat} {s : SymM} (h : l[i]? = some s) : hereL F M b (l.drop i) = aheadM (hereL F M b (l.drop (i + 1))) (symF F s) (symE M s) := by
  have hl := (List.getElem?_eq_some_iff.1 h).1
  have he := (List.getElem?_eq_some_iff.1 h).2
  rw [List.drop_eq_getElem_cons hl, he]
  rfl
def QuietB (F : List BS) (M : List Bool) (x : ProdM) (B : List BackM) : Prop :=
  (B.getD x.left.toNat noB).there = true → ∀ (i : Nat) (s : SymM), x.right[i]? = some s → s.kind = 1 → (B.getD s.sort.toNat noB).join (hereL F M (B.getD x.left.toNat noB) (x.right.drop (i + 1))) = B.getD s.sort.toNat noB
structure BI (w : World) (Bb n : Nat) (S : List BackM → Prop) (F : List BS) (M : List Bool) (b0 : BackM) (l : List SymM) (B0 B : List BackM) (nb : Bool) (m : Nat) (W : World) : Prop where
  g : w.grownBy W (some Bb)
  blk : Blk W Bb 123 (backsC B)
  len : B.length = n
  snd : S B
  st : (nb = false ∧ B = B0 ∧ ∀ (i : Nat) (s : SymM), m ≤ i → l[i]? = some s → s.kind = 1 → (B0.getD s.sort.toNat noB).join (hereL F M b0 (l.drop (i + 1))) = B0.getD s.sort.toNat noB) ∨ (nb = true ∧ sizeB B < sizeB B0)
theorem BI.on {w : World} {Bb n : Nat} {S : List BackM → Prop} {F : List BS} {M : List Bool} {b0 : BackM} {l : List SymM} {B0 B : List BackM} {nb : Bool} {m : Nat} {W V : World} (h : BI w Bb n S F M b0 l B0 B nb m W) (hB : Below W.heap.size W V) : BI w Bb n S F M b0 l B0 B nb m V :=
  ⟨grown_trans h.g (grown_below hB _), h.blk.below hB h.blk.lt, h.len, h.snd, h.st⟩
def F106Post (w : World) (Bb n : Nat) (S : List BackM → Prop) (F : List BS) (M : List Bool) (x : ProdM) (B : List BackM) (e : Ending) (w' : World) : Prop := ∃ (B' : List BackM) (b : Bool), e = .returned (.bool b) ∧ w.grownBy w' (some Bb) ∧ Blk w' Bb 123 (backsC B') ∧ B'.length = n ∧ S B' ∧ ((b = false ∧ B' = B ∧ QuietB F M x B) ∨ (b = true ∧ sizeB B' < sizeB B))
end Go.Proofs.YtodnlcbnbkkanaaGreatDoor
end
section
namespace Go.Proofs.YtodnlcbnbkkanaaGreatDoor
open Go

section
variable {P : Program} {ops : Array Oper} {w : World} {lp r : Nat} {Q : Exit → Act → World → Prop}
theorem wpOpIn_of_stOp {i : Nat} {K : Act → Prop} {K' : Act → World → Prop} {a : Act} (hd : ∀ o c, ops[i]? = some o → o.op ≠ .defer c) (h : ∀ a, K a → K' a w) (hh : stOp P ops w i K a) : wpOpIn (Fence.wide.inRound lp) r P ops Q i K' a w := by
  unfold stOp at hh
  unfold wpOpIn
  cases ho : ops[i]? with
  | none => simp only [ho] at hh ⊢; exact h _ hh
  | some o =>
    simp only [ho] at hh ⊢
    split
    · rename_i hw
      simp only [hw, if_true] at hh
      refine ⟨fun _ _ => trivial, ?_⟩
      rw [Oper.semAt_eq _ _ _ (fun c => hd o c ho)]
      unfold Oper.still at hh
      generalize (execOp a.eval o).run P w = res at *
      cases res with
      | ok x w' =>
        cases x <;> simp only [Oper.stillUpon] at hh <;> simp only [Oper.uponIn]
        case value v => obtain ⟨rfl, h'⟩ := hh; exact h _ h'
        case skip => obtain ⟨rfl, h'⟩ := hh; exact h _ h'
        case enter f args =>
          obtain ⟨rfl, v, hc, hn⟩ := hh
          refine ⟨fun h0 => (by cases h0), ?_⟩
          refine CallsIn.mono (show CallsIn (Fence.wide.inRound lp) (r - 1) P f args _ _ from callsIn_wide.2 hc) ?_
          rintro e w'' ⟨rfl, rfl⟩
          exact h _ hn
      | halt x w' => cases x <;> simp only [Oper.stillUpon] at hh
    · rename_i hw
      simp only [hw, Bool.false_eq_true, if_false] at hh
      exact ⟨fun _ _ => trivial, h _ hh⟩

theorem wpAnyIn_of_head {md : Region.Mode} {n g : Nat} {L : Array Bool → Act → Prop} (hd : ∀ (i : Nat) (o : Oper) (c : Call), ops[i]? = some o → o.op ≠ .defer c) (hL : ∀ listed a, L listed a → wpAnyIn (Fence.wide.inRound lp) r P md ops Q g listed a w) :
    ∀ (f : Nat) (listed : Array Bool) (a : Act), wpAnyL P md ops w n L f listed a → wpAnyIn (Fence.wide.inRound lp) r P md ops Q (f + g) listed a w
  | 0, listed, a, h => by rw [Nat.zero_add]; exact hL _ _ h
  | f + 1, listed, a, h => by
    rw [show f + 1 + g = (f + g) + 1 by omega]
    exact ⟨fun h0 => absurd h0 h.1, fun i hi => wpOpIn_of_stOp (hd i) (fun a' h' => wpAnyIn_of_head hd hL f _ a' h') (h.2 i hi).2⟩

theorem wpAnyIn_of_seq {md : Region.Mode} {F : Fence} : ∀ (l : List Oper) (k : Nat) (listed : Array Bool) (a : Act) (w : World), (∀ j, l[j]? = ops[k + j]?) →
    Region.seqB md ops l.length k listed = true → wpListIn F r P ops Q l a w → wpAnyIn F r P md ops Q l.length listed a w
  | [], _, _, _, _, _, hB, h => ⟨by simpa [Region.seqB] using hB, h⟩
  | o :: l, k, listed, a, w, hl, hB, h => by
    have h0 : ops[k]? = some o := by simpa using (hl 0).symm
    simp only [List.length_cons, Region.seqB, Bool.and_eq_true, decide_eq_true_eq] at hB
    refine ⟨fun h1 => (by rw [hB.1] at h1; cases h1), fun i hi => ?_⟩
    rw [hB.1] at hi
    have hik : i = k := by simpa using hi
    subst hik
    have hw : wpOpIn F r P ops Q i (wpListIn F r P ops Q l) a w := by unfold wpOpIn; simp only [h0]; exact h
    exact wpOpIn_mono (fun a' w' h' => wpAnyIn_of_seq l (i + 1) _ a' w' (fun j => by have := hl (j + 1); simpa [Nat.add_assoc, Nat.add_comm 1 j] using this) hB.2 h') hw
end

def noDefer (l : List Oper) : Bool := l.all fun o => match o.op with | .defer _ => false | _ => true
theorem noDefer_spec {l : List Oper} (h : noDefer l = true) (i : Nat) (o : Oper) (c : Call) (ho : l.toArray[i]? = some o) : o.op ≠ .defer c := by
  intro e
  have hm : o ∈ l := List.mem_of_getElem? (by simpa using ho)
  have := List.all_eq_true.1 h o hm
  rw [e] at this
  cases this

theorem wpIn_region_still_tail {P : Program} {id lp r : Nat} {Q : Exit → Act → World → Prop} {a : Act} {w : World} {l : List Oper} (n : Nat) (hm : P.follows .mixedOrders = true) (hB : Region.lexTailB .any l.toArray n = true) (hN : noDefer l = true)
    (h : wpStill P l.toArray { w with drawn := w.drawn + 1 } (fun a' => wpListIn (Fence.wide.inRound lp) r P l.toArray Q (l.drop n) a' { w with drawn := w.drawn + 1 }) (l.take n) a) : (Code.region id l.toArray true).wpIn (Fence.wide.inRound lp) r P Q a w := by
  simp only [Region.lexTailB, Bool.and_eq_true, decide_eq_true_eq] at hB
  obtain ⟨⟨⟨⟨hsel, hn⟩, hs⟩, hc⟩, hlex⟩ := hB
  have hn' : n < l.length := by simpa using hn
  have htl : (l.take n).length = n := by simp; omega
  have hdl : (l.drop n).length = l.toArray.size - n := by simp
  have inv0 : HeadInv .any l.toArray n (Array.replicate l.toArray.size false) :=
    ⟨by simp, fun j oj _ hl => (by rw [getD_replicate_false] at hl; cases hl), fun t _ ht => getD_in (by simpa using ht) (getD_replicate_false _ _)⟩
  have H := wpAnyL_lex (md := .any) (g := l.toArray.size - n) hsel hs hc hn (l.take n) 0 _ a (fun j hj => by
    have hj' : j < n := by rw [htl] at hj; exact hj
    simp [hj']) (by simpa using htl) inv0 (by rw [htl]; exact hlex) h
  refine wpIn_region_any hm ?_
  have := wpAnyIn_of_head (lp := lp) (r := r) (Q := Q) (g := l.toArray.size - n) (fun i o c ho => noDefer_spec hN i o c ho) (fun listed a' hL => by
    have := wpAnyIn_of_seq (md := .any) (F := Fence.wide.inRound lp) (r := r) (Q := Q) (l.drop n) n listed a' { w with drawn := w.drawn + 1 } (fun j => by simp [List.getElem?_drop]) (by rw [hdl]; exact hL.1) hL.2
    rwa [hdl] at this) _ _ _ H
  rw [htl, show n + (l.toArray.size - n) = l.toArray.size by omega] at this
  exact this
end Go.Proofs.YtodnlcbnbkkanaaGreatDoor
end
section
namespace Go.Proofs.YtodnlcbnbkkanaaGreatDoor
open Go Go.RowKit

section
variable {w : World} {o : Oper} {ρ : Operand → Value}
theorem ld118 {x : Operand} {p : Nat} {u v : Value} (ho : o.op = .load 118 x) (hx : ρ x = .pointer (some ⟨p, 0, none⟩)) (hc : Blk w p 118 #[u, v]) : (execOp ρ o).run Tryz.prog w = .ok (.value (.agg #[u, v])) w := by
  have c0 := hc.cell 0
  have c1 := hc.cell 1
  simp only [List.getElem?_toArray, List.getElem?_cons_zero, List.getElem?_cons_succ] at c0 c1
  unfold execOp; rw [ho]; simp only [hx]
  go_simp
theorem ld123 {x : Operand} {p : Nat} {b : BackM} (ho : o.op = .load 123 x) (hx : ρ x = .pointer (some ⟨p, 0, none⟩)) (hc : Blk w p 123 (backC b)) : (execOp ρ o).run Tryz.prog w = .ok (.value (backV b)) w := by
  obtain ⟨c0, c1, c2, c3, c4, c5⟩ := cells6b hc
  unfold backV backC
  unfold execOp; rw [ho]; simp only [hx]
  go_simp
theorem call104 {x y : Operand} {ts : Array TypeId} {u v : Value} (ho : o.op = .call { callee := .value (.func 104), args := #[x, y], argTypes := ts }) (hx : ρ x = u) (hy : ρ y = v) (hf : ρ (.func 104) = .func (.func 104) #[] #[]) : (execOp ρ o).run Tryz.prog w = .ok (.enter 104 #[u, v]) w := by
  have e := enters_of Tryz.func104 (by kernel_rfl) rfl
  unfold execOp; rw [ho]
  simp [go_sem, resolve, invoke, hx, hy, hf, e]
theorem call109 {x y z : Operand} {ts : Array TypeId} {u v t : Value} (ho : o.op = .call { callee := .value (.func 109), args := #[x, y, z], argTypes := ts }) (hx : ρ x = u) (hy : ρ y = v) (hz : ρ z = t) (hf : ρ (.func 109) = .func (.func 109) #[] #[]) : (execOp ρ o).run Tryz.prog w = .ok (.enter 109 #[u, v, t]) w := by
  have e := enters_of Tryz.func109 (by kernel_rfl) rfl
  unfold execOp; rw [ho]
  simp [go_sem, resolve, invoke, hx, hy, hz, hf, e]
theorem ext0 {x : Operand} {u v : Value} (ho : o.op = .extract x 0) (hx : ρ x = .tuple #[u, v]) : (execOp ρ o).run Tryz.prog w = .ok (.value u) w := by
  unfold execOp; rw [ho]; simp only [hx]
  go_simp
theorem ext1 {x : Operand} {u v : Value} (ho : o.op = .extract x 1) (hx : ρ x = .tuple #[u, v]) : (execOp ρ o).run Tryz.prog w = .ok (.value v) w := by
  unfold execOp; rw [ho]; simp only [hx]
  go_simp
theorem st123 {x y : Operand} {p : Nat} {b c : BackM} (ho : o.op = .store 123 x y) (hx : ρ x = .pointer (some ⟨p, 0, none⟩)) (hy : ρ y = backV c) (hc : Blk w p 123 (backC b)) : ∃ W, (execOp ρ o).run Tryz.prog w = .ok .skip W ∧ w.grownBy W (some p) ∧ Blk W p 123 (backC c) := by
  obtain ⟨c0, c1, c2, c3, c4, c5⟩ := cells6b hc
  have f0 := hc.frozen 0
  have f1 := hc.frozen 1
  have f2 := hc.frozen 2
  have f3 := hc.frozen 3
  have f4 := hc.frozen 4
  have f5 := hc.frozen 5
  have hl := hc.lt
  refine ⟨(((((w.setCell ⟨p, 0, none⟩ (.bool c.there)).setCell ⟨p, 1, none⟩ (.int .u64 (wdI c.bytes 0))).setCell ⟨p, 2, none⟩ (.int .u64 (wdI c.bytes 1))).setCell ⟨p, 3, none⟩ (.int .u64 (wdI c.bytes 2))).setCell ⟨p, 4, none⟩ (.int .u64 (wdI c.bytes 3))).setCell ⟨p, 5, none⟩ (.bool c.fin), ?_, ?_, ?_⟩
  · unfold backV backC at hy
    unfold execOp; rw [ho]; simp only [hx, hy]
    go_simp
  · exact grown_trans (grown_trans (grown_trans (grown_trans (grown_trans (grown_set _ _ _ _) (grown_set _ _ _ _)) (grown_set _ _ _ _)) (grown_set _ _ _ _)) (grown_set _ _ _ _)) (grown_set _ _ _ _)
  · exact (((((hc.set 0 (.bool c.there)).set 1 (.int .u64 (wdI c.bytes 0))).set 2 (.int .u64 (wdI c.bytes 1))).set 3 (.int .u64 (wdI c.bytes 2))).set 4 (.int .u64 (wdI c.bytes 3))).set 5 (.bool c.fin)
end

theorem wpAnyIn_inv {F : Fence} {n : Nat} {P : Program} {md : Region.Mode} {ops : Array Oper} {Q : Exit → Act → World → Prop} (Inv : Array Bool → Act → World → Prop)
    (hstep : ∀ L a w, Inv L a w → ∀ i ∈ Region.ready md ops L, wpOpIn F n P ops Q i (Inv (L.setIfInBounds i true)) a w) (hend : ∀ L a w, Inv L a w → Region.ready md ops L = [] → Q .normal a w) :
    ∀ (fuel : Nat) (L : Array Bool) (a : Act) (w : World), (List.range ops.size).countP (fun x => !(L.getD x true)) ≤ fuel → Inv L a w → wpAnyIn F n P md ops Q fuel L a w := by
  intro fuel
  induction fuel with
  | zero =>
    intro L a w hc hI
    have hr : Region.ready md ops L = [] := by
      apply List.eq_nil_iff_forall_not_mem.2
      intro j hj
      obtain ⟨h1, oj, hoj, _⟩ := mem_ready.1 hj
      have hjl := (Array.getElem?_eq_some_iff.1 hoj).1
      have := (List.countP_pos_iff (p := fun x => !(L.getD x true))).2 ⟨j, List.mem_range.2 hjl, (by rw [h1]; rfl : (!(L.getD j true)) = true)⟩
      omega
    exact ⟨hr, hend L a w hI hr⟩
  | succ fuel ih =>
    intro L a w hc hI
    refine ⟨fun hr => hend L a w hI hr, fun i hi => ?_⟩
    obtain ⟨h1, oi, hoi, _⟩ := mem_ready.1 hi
    have hil := (Array.getElem?_eq_some_iff.1 hoi).1
    refine wpOpIn_mono (fun a' w' h => ih _ a' w' ?_ h) (hstep L a w hI i hi)
    have hLs : i < L.size := by
      rcases Nat.lt_or_ge i L.size with h | h
      · exact h
      · simp [Array.getElem?_eq_none h] at h1
    have hless := countP_less (p := fun x => !(L.getD x true)) (q := fun x => !((L.setIfInBounds i true).getD x true)) (c := i) (List.mem_range.2 hil) (by rw [h1]; rfl) (by simp [hLs]) (fun y hy => by
      by_cases e : i = y
      · subst e; simp [hLs] at hy
      · rw [getD_set_ne true e] at hy; exact hy)
    omega
def ops8 : Array Oper := #[{ dst := some 33, op := Op.load 123 (Operand.tmp 5), type := 123, pos := "sides.go:96", after := #[], guard := none }, { dst := some 34, op := Op.load 118 (Operand.tmp 2), type := 118, pos := "sides.go:96", after := #[], guard := none }, { dst := some 35, op := Op.load 60 (Operand.tmp 8), type := 60, pos := "sides.go:96", after := #[], guard := none }, { dst := some 36, op := Op.call { callee := Callee.value (Operand.func 104), args := #[Operand.tmp 34, Operand.tmp 35], argTypes := #[118, 60] }, type := 145, pos := "sides.go:96", after := #[{ on := 1, ground := Ground.data }, { on := 2, ground := Ground.data }], guard := none }, { dst := some 37, op := Op.extract (Operand.tmp 36) 0, type := 47, pos := "sides.go:96", after := #[{ on := 3, ground := Ground.data }], guard := none }, { dst := some 38, op := Op.extract (Operand.tmp 36) 1, type := 4, pos := "sides.go:96", after := #[{ on := 3, ground := Ground.data }], guard := none }, { dst := some 39, op := Op.call { callee := Callee.value (Operand.func 109), args := #[Operand.tmp 33, Operand.tmp 37, Operand.tmp 38], argTypes := #[123, 47, 4] }, type := 123, pos := "sides.go:96", after := #[{ on := 0, ground := Ground.data }, { on := 4, ground := Ground.data }, { on := 5, ground := Ground.data }, { on := 3, ground := Ground.chain }], guard := none }, { dst := none, op := Op.store 123 (Operand.tmp 5) (Operand.tmp 39), type := 0, pos := "sides.go:96", after := #[{ on := 6, ground := Ground.data }, { on := 6, ground := Ground.chain }, { on := 0, ground := Ground.phase }, { on := 1, ground := Ground.phase }, { on := 2, ground := Ground.phase }, { on := 3, ground := Ground.phase }, { on := 4, ground := Ground.phase }, { on := 5, ground := Ground.phase }, { on := 6, ground := Ground.phase }], guard := none }]
theorem callsIn_round {lp r : Nat} {P : Program} {f : FuncId} {args : Array Value} {w : World} {R : Ending → World → Prop} (h : Calls P f args w R) : CallsIn (Fence.wide.inRound lp) r P f args w R := (callsIn_wide (n := r)).2 h
theorem wpOpIn_go {lp r i : Nat} {P : Program} {ops : Array Oper} {Q : Exit → Act → World → Prop} {K : Act → World → Prop} {a : Act} {w : World} {o : Oper} (ho : ops[i]? = some o) (hg : o.guard = none) (hd : ∀ c, o.op ≠ .defer c) (h : o.uponIn (Fence.wide.inRound lp) r P a K Q ((execOp a.eval o).run P w)) : wpOpIn (Fence.wide.inRound lp) r P ops Q i K a w := by
  unfold wpOpIn
  rw [ho]
  have hw : Region.wanted o (yielded ops a.tmps) = true := by unfold Region.wanted; rw [hg]
  simp only [hw, if_true]
  refine ⟨fun _ _ => trivial, ?_⟩
  rw [Oper.semAt_eq _ _ _ hd]
  exact h
theorem eval_put_self {a : Act} {d : Nat} {v : Value} (h : d < a.tmps.size) : (a.put (some d) v).eval (.tmp d) = v := by
  simp [Act.put, Act.eval, h]
theorem tmp_ne {x y : Nat} (h : x ≠ y) : Operand.tmp x ≠ Operand.tmp y := fun e => by injection e with e; exact h e
theorem ops8_def (i : Nat) (o : Oper) (ho : ops8[i]? = some o) (c : Call) : o.op ≠ .defer c := noDefer_spec (l := ops8.toList) (by kernel_rfl) i o c ho
theorem ops8_on (i : Nat) (o : Oper) (ho : ops8[i]? = some o) (e : Go.Edge) (he : e ∈ o.after) : e.on < i := by
  have h : ops8.toList.zipIdx.all (fun p => p.1.after.toList.all fun e => decide (e.on < p.2)) = true := by kernel_rfl
  rw [List.all_eq_true] at h
  have hm : (o, i) ∈ ops8.toList.zipIdx := List.mk_mem_zipIdx_iff_getElem?.2 (by rw [Array.getElem?_toList]; exact ho)
  have := h _ hm
  rw [List.all_eq_true] at this
  simpa using this e (by simpa using he)
def val8 (Bf Be n : Nat) (F : List BS) (M : List Bool) (h : BackM) (s : SymM) : Nat → Value
  | 0 => backV h
  | 1 => .agg #[.slice (some ⟨Bf, 0, none⟩) n n, .slice (some ⟨Be, 0, none⟩) n n]
  | 2 => symV s
  | 3 => .tuple #[vset (symF F s), .bool (symE M s)]
  | 4 => vset (symF F s)
  | 5 => .bool (symE M s)
  | _ => backV (aheadM h (symF F s) (symE M s))
structure R8 (W : World) (Bx Bf Be n B5 Bs : Nat) (F : List BS) (M : List Bool) (h : BackM) (s : SymM) (L : Array Bool) (a : Act) (V : World) : Prop where
  sz : L.size = 8
  ts : a.tmps.size = 41
  e2 : a.eval (.tmp 2) = .pointer (some ⟨Bx, 0, none⟩)
  e5 : a.eval (.tmp 5) = .pointer (some ⟨B5, 0, none⟩)
  e8 : a.eval (.tmp 8) = .pointer (some ⟨Bs, 0, none⟩)
  vs : ∀ j, j < 7 → L.getD j false = true → a.eval (.tmp (33 + j)) = val8 Bf Be n F M h s j
  cl : L.getD 7 false = true → ∀ j, j < 7 → L.getD j false = true
  wl : L.getD 7 false = false → Below W.heap.size W V
  wr : L.getD 7 false = true → W.grownBy V (some B5) ∧ Blk V B5 123 (backC (aheadM h (symF F s) (symE M s)))
theorem R8.put {W : World} {Bx Bf Be n B5 Bs : Nat} {F : List BS} {M : List Bool} {h : BackM} {s : SymM} {L : Array Bool} {a : Act} {V V' : World} (hI : R8 W Bx Bf Be n B5 Bs F M h s L a V) {i : Nat} (hi : i < 7) (hL : L.getD i false = false) {v : Value} (hv : v = val8 Bf Be n F M h s i) (hB : Below V.heap.size V V') {d : Nat} (hd : d = 33 + i) : R8 W Bx Bf Be n B5 Bs F M h s (L.setIfInBounds i true) (a.put (some d) v) V' := by
  subst hd hv
  have h7 : L.getD 7 false = false := by
    cases e : L.getD 7 false with
    | false => rfl
    | true => rw [hI.cl e i hi] at hL; cases hL
  have h7' : (L.setIfInBounds i true).getD 7 false = false := by rw [getD_set_ne false (by omega)]; exact h7
  have hlow := hI.wl h7
  refine ⟨by rw [Array.size_setIfInBounds]; exact hI.sz, by simp [Act.put, hI.ts], ?_, ?_, ?_, ?_, fun e => ?_, fun _ => ?_, fun e => ?_⟩
  · rw [Act.eval_put (fun d e => by cases e; exact tmp_ne (by omega))]; exact hI.e2
  · rw [Act.eval_put (fun d e => by cases e; exact tmp_ne (by omega))]; exact hI.e5
  · rw [Act.eval_put (fun d e => by cases e; exact tmp_ne (by omega))]; exact hI.e8
  · intro j hj hl
    by_cases e : i = j
    · subst e
      rw [eval_put_self (by rw [hI.ts]; omega)]
    · rw [Act.eval_put (fun d e' => by cases e'; exact tmp_ne (by omega))]
      rw [getD_set_ne false e] at hl
      exact hI.vs j hj hl
  · rw [h7'] at e; cases e
  · exact hlow.trans (hB.mono hlow.size)
  · rw [h7'] at e; cases e

theorem uponIn_of {F : Fence} {n : Nat} {P : Program} {o : Oper} {a : Act} {K : Act → World → Prop} {Q : Exit → Act → World → Prop} {x y : Result Next} (h : x = y) (hh : o.uponIn F n P a K Q y) : o.uponIn F n P a K Q x := by rw [h]; exact hh
theorem r8_any {lp r : Nat} {Q : Exit → Act → World → Prop} (a0 : Act) (W : World) (Bx Bf Be n B5 Bs : Nat) (F : List BS) (M : List Bool) (h : BackM) (s : SymM) (hx : Blk W Bx 118 #[.slice (some ⟨Bf, 0, none⟩) n n, .slice (some ⟨Be, 0, none⟩) n n]) (hf : Blk W Bf 47 (setsC F)) (he : Blk W Be 4 (bools M)) (h5 : Blk W B5 123 (backC h)) (hs : Blk W Bs 60 (symC s)) (hF : F.length = n) (hM : M.length = n) (hn : n ≤ 1000) (hk : s.kind = 0 ∨ s.kind = 1) (hsy : s.kind = 1 → ∃ k : Nat, s.sort = k ∧ k < n)
    (hts : a0.tmps.size = 41) (e2 : a0.eval (.tmp 2) = .pointer (some ⟨Bx, 0, none⟩)) (e5 : a0.eval (.tmp 5) = .pointer (some ⟨B5, 0, none⟩)) (e8 : a0.eval (.tmp 8) = .pointer (some ⟨Bs, 0, none⟩))
    (hQ : ∀ a W', W.grownBy W' (some B5) → Blk W' B5 123 (backC (aheadM h (symF F s) (symE M s))) → Q .normal a W') : (Code.region 8 ops8 true).wpIn (Fence.wide.inRound lp) r Tryz.prog Q a0 W := by
  refine wpIn_region_any (by kernel_rfl) ?_
  refine wpAnyIn_inv (R8 W Bx Bf Be n B5 Bs F M h s) ?_ ?_ _ _ _ _ ?_ ?_
  · intro L a V hI i hi
    obtain ⟨hun, o, ho, hall⟩ := mem_ready.1 hi
    have hi8 : i < 8 := (Array.getElem?_eq_some_iff.1 ho).1
    have hun' := getD_both hun
    have h7 : i < 7 → L.getD 7 false = false := fun hi7 => by
      cases e : L.getD 7 false with
      | false => rfl
      | true => rw [hI.cl e i hi7] at hun'; cases hun'
    have hlow : i < 7 → Below W.heap.size W V := fun hi7 => hI.wl (h7 hi7)
    have : i = 0 ∨ i = 1 ∨ i = 2 ∨ i = 3 ∨ i = 4 ∨ i = 5 ∨ i = 6 ∨ i = 7 := by omega
    have hdf := ops8_def i o ho
    rcases this with rfl | rfl | rfl | rfl | rfl | rfl | rfl | rfl <;> cases ho <;> refine wpOpIn_go rfl rfl hdf ?_
    · rw [ld123 rfl hI.e5 (h5.below (hlow (by decide)) h5.lt)]
      exact hI.put (by decide) hun' rfl (Below.refl _ _) rfl
    · rw [ld118 rfl hI.e2 (hx.below (hlow (by decide)) hx.lt)]
      exact hI.put (by decide) hun' rfl (Below.refl _ _) rfl
    · rw [ld60 rfl hI.e8 (fun j v hj => by rw [Nat.zero_add, (hs.below (hlow (by decide)) hs.lt).cell j]; exact hj)]
      exact hI.put (by decide) hun' rfl (Below.refl _ _) rfl
    · have v1 := hI.vs 1 (by decide) (hall ⟨1, .data⟩ (by simp [ops8]) rfl)
      have v2 := hI.vs 2 (by decide) (hall ⟨2, .data⟩ (by simp [ops8]) rfl)
      rw [call104 rfl v1 v2 rfl]
      refine ⟨fun h0 => (by cases h0), ?_⟩
      have hl := hlow (by decide)
      refine CallsIn.mono (callsIn_round (bof_any F M Bf Be n s V (hf.below hl hf.lt) (he.below hl he.lt) hF hM hn hk hsy)) ?_
      rintro e w'' ⟨rfl, hB⟩
      exact hI.put (by decide) hun' rfl hB rfl
    · have v3 := hI.vs 3 (by decide) (hall ⟨3, .data⟩ (by simp [ops8]) rfl)
      rw [ext0 rfl v3]
      exact hI.put (by decide) hun' rfl (Below.refl _ _) rfl
    · have v3 := hI.vs 3 (by decide) (hall ⟨3, .data⟩ (by simp [ops8]) rfl)
      rw [ext1 rfl v3]
      exact hI.put (by decide) hun' rfl (Below.refl _ _) rfl
    · have v0 := hI.vs 0 (by decide) (hall ⟨0, .data⟩ (by simp [ops8]) rfl)
      have v4 := hI.vs 4 (by decide) (hall ⟨4, .data⟩ (by simp [ops8]) rfl)
      have v5 := hI.vs 5 (by decide) (hall ⟨5, .data⟩ (by simp [ops8]) rfl)
      rw [call109 rfl v0 v4 v5 rfl]
      refine ⟨fun h0 => (by cases h0), ?_⟩
      refine CallsIn.mono (callsIn_round (ahead_any h (symF F s) (symE M s) V)) ?_
      rintro e w'' ⟨rfl, hB⟩
      exact hI.put (by decide) hun' rfl hB rfl
    · have hl := hI.wl hun'
      have hd : ∀ j, j < 7 → L.getD j false = true := fun j hj => by
        have : j = 0 ∨ j = 1 ∨ j = 2 ∨ j = 3 ∨ j = 4 ∨ j = 5 ∨ j = 6 := by omega
        rcases this with rfl | rfl | rfl | rfl | rfl | rfl | rfl
        · exact hall ⟨0, .phase⟩ (by simp [ops8]) rfl
        · exact hall ⟨1, .phase⟩ (by simp [ops8]) rfl
        · exact hall ⟨2, .phase⟩ (by simp [ops8]) rfl
        · exact hall ⟨3, .phase⟩ (by simp [ops8]) rfl
        · exact hall ⟨4, .phase⟩ (by simp [ops8]) rfl
        · exact hall ⟨5, .phase⟩ (by simp [ops8]) rfl
        · exact hall ⟨6, .phase⟩ (by simp [ops8]) rfl
      have v6 := hI.vs 6 (by decide) (hd 6 (by decide))
      obtain ⟨V', h1, h2, h3⟩ := st123 (w := V) (ρ := a.eval) (o := ops8[7]) rfl hI.e5 v6 (h5.below hl h5.lt)
      refine uponIn_of h1 ?_
      have h7' : (L.setIfInBounds 7 true).getD 7 false = true := by simp [hI.sz]
      refine ⟨by rw [Array.size_setIfInBounds]; exact hI.sz, hI.ts, hI.e2, hI.e5, hI.e8, fun j hj hl => hI.vs j hj (hd j hj), fun _ j hj => by rw [getD_set_ne false (by omega)]; exact hd j hj, fun e => (by rw [h7'] at e; cases e), fun _ => ⟨grown_trans (grown_below hl _) h2, h3⟩⟩
  · intro L a V hI hr
    have key : ∀ m i, i < m → i < 8 → L.getD i false = true := fun m => by
      induction m with
      | zero => intro i hi; omega
      | succ m ih =>
        intro i hi h8
        cases e : L.getD i false with
        | true => rfl
        | false =>
          exfalso
          have hm : i ∈ Region.ready .any ops8 L := mem_ready.2 ⟨getD_in (by rw [hI.sz]; exact h8) e, ops8[i]'h8, Array.getElem?_eq_getElem _, fun e' he' _ => by
            have := ops8_on i _ (Array.getElem?_eq_getElem h8) e' he'
            exact ih e'.on (by omega) (by omega)⟩
          rw [hr] at hm
          cases hm
    have h7 := key 8 7 (by decide) (by decide)
    exact hQ _ _ (hI.wr h7).1 (hI.wr h7).2
  · exact Nat.le_trans List.countP_le_length (by simp)
  · exact ⟨rfl, hts, e2, e5, e8, fun j hj hl => (by rw [getD_replicate_false] at hl; cases hl), fun e => (by rw [getD_replicate_false] at e; cases e), fun _ => (Below.refl _ _).drew, fun e => (by rw [getD_replicate_false] at e; cases e)⟩
end Go.Proofs.YtodnlcbnbkkanaaGreatDoor
end
