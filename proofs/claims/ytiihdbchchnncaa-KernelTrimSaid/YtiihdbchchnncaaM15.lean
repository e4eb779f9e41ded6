import Derived.Deep.DeepCutAuto
import Derived.Test.YtiihdbchchnncaaM14
section
namespace Go.Proofs.Ytiihdbchchnncaa
open Go Go.RowKit Go.Vals

theorem make_ints (n : Nat) (hn : n ≤ 1000) (w : World) : (Instr.makeSlice 40 (.int .i64 (n : Int)) (.int .i64 (n : Int))).run Try.prog w = .ok (.slice (some ⟨w.heap.size, 0, none⟩) n n) (w.alloc (.cells (Array.replicate n (.int .i64 0)) 3)) := by
  obtain ⟨i0, hi, hz0, hz1, hz2⟩ := info_parts Try.info3
  have e : Array.replicate n (Value.int .i64 0) = madeCells #[.int .i64 0] n := by
    unfold madeCells
    apply Array.ext'
    simp [Nat.mod_one, List.map_const']
  rw [e]
  exact run_make_row 40 3 i0 (.int .i64 0) Try.underlying40 hi hz0 hz1 rfl .i64 .i64 n (by rw [hz2]; omega) (by omega) w
theorem twoMake (w : World) (X Y : Array Value) : Below w.heap.size w ((w.alloc (.cells X 3)).alloc (.cells Y 3)).drew ∧ Blk ((w.alloc (.cells X 3)).alloc (.cells Y 3)).drew w.heap.size 3 X ∧ Blk ((w.alloc (.cells X 3)).alloc (.cells Y 3)).drew (w.heap.size + 1) 3 Y := by
  refine ⟨(((Below.refl _ w).alloc (Nat.le_refl _) _).alloc (by simp) _).drew, (Blk.new w 3 X).alloc _, ?_⟩
  have h := Blk.new (w.alloc (.cells X 3)) 3 Y
  rw [World.size_alloc] at h
  exact h
/-- What the reference asks of a symbol of what is kept. -/
def kindOk (L : List Bool) (s : SymM) : Bool := (s.kind == 0) || lv L s.sort
theorem stay_eq {g : GramM} {L R : List Bool} (hm : MayB g) (hR : ReachL g L R) (hs : lv L g.start = true) {x : ProdM} (hx : x ∈ g.prods) : (lv R x.left && x.right.all (kindOk L)) = stayP R x := by
  obtain ⟨st, hst, _⟩ := hm.start
  have hst' : lv L ((g.start.toNat : Nat) : Int) = true := by rw [hst, Int.toNat_natCast, ← hst]; exact hs
  obtain ⟨j, hj, hjn⟩ := hm.left x hx
  unfold stayP sortsB
  cases hl : lv R x.left with
  | false => rfl
  | true =>
    rw [Bool.true_and, Bool.true_and]
    have hRl : RF g L g.start.toNat j := (hR.2 j).1 (by have := lv_true hl; rw [hj, Int.toNat_natCast] at this; exact this)
    cases ha : x.right.all (kindOk L) with
    | true =>
      have hL : sortsB (lv L) x = true := List.all_eq_true.2 fun s hs => by
        have h := List.all_eq_true.1 ha s hs
        unfold kindOk at h
        unfold sortB
        rcases hm.kind x hx s hs with e | e
        · rw [e]; rfl
        · rw [e] at h ⊢; simpa using h
      symm
      refine List.all_eq_true.2 fun s hs => ?_
      unfold sortB
      rcases hm.kind x hx s hs with e | e
      · rw [e]; rfl
      · obtain ⟨t, ht, htn⟩ := hm.sym x hx s hs e
        have h2 : RF g L g.start.toNat t := hRl.step ⟨x, hx, hj, hL, s, hs, e, ht⟩
        rw [e, ht]
        exact lv_some (by rw [Int.toNat_natCast]; exact (hR.2 t).2 h2)
    | false =>
      symm
      rw [List.all_eq_false] at ha ⊢
      obtain ⟨s, hs, h⟩ := ha
      refine ⟨s, hs, fun h2 => h ?_⟩
      unfold sortB at h2
      unfold kindOk
      rcases hm.kind x hx s hs with e | e
      · rw [e]; rfl
      · obtain ⟨t, ht, htn⟩ := hm.sym x hx s hs e
        rw [e, ht] at h2
        rw [e, ht]
        have h3 : lv R (t : Int) = true := by simpa using h2
        have h4 := lv_true h3
        rw [Int.toNat_natCast] at h4
        rw [rf_live ((hR.2 t).1 h4) hst']; rfl
/-- What the slots hold of the two lists that Trim asks for. -/
def pT (g : GramM) (N n : Nat) (t : Tmp) (v : Value) (W : World) : Prop :=
  if t = 28 ∨ t = 4 then ∃ A L, N ≤ A ∧ v = .slice (some ⟨A, 0, none⟩) n n ∧ Blk W A 4 (bools L) ∧ Live g L
  else ∃ A L R, N ≤ A ∧ v = .slice (some ⟨A, 0, none⟩) n n ∧ Blk W A 4 (bools R) ∧ Live g L ∧ ReachU g true L R
theorem pT.below {g : GramM} {N n : Nat} {t : Tmp} {v : Value} {W W' : World} (h : pT g N n t v W) (hB : Below W.heap.size W W') : pT g N n t v W' := by
  unfold pT at *
  split at h
  · next e => rw [if_pos e]; obtain ⟨A, L, h0, h1, h2, h3⟩ := h; exact ⟨A, L, h0, h1, h2.below hB h2.lt, h3⟩
  · next e => rw [if_neg e]; obtain ⟨A, L, R, h0, h1, h2, h3⟩ := h; exact ⟨A, L, R, h0, h1, h2.below hB h2.lt, h3⟩

theorem ld27' {w : World} {o : Oper} {ρ : Operand → Value} {x : Operand} {b q : Nat} {v : GramM} {V : Array Value} (ho : o.op = .load 27 x) (hx : ρ x = .pointer (some ⟨b, q, none⟩)) (hc : CellsAt w b q (gramC v)) (hv : gramC v = V) : (execOp ρ o).run Try.prog w = .ok (.value (.agg V)) w := by
  rw [← hv]; exact ld27 ho hx hc
set_option maxRecDepth 100000 in
set_option maxHeartbeats 40000000 in
/-- The reference's Trim from its third loop on. -/
theorem rtrim_tail1 {u11 u12 u13 u14 u15 u19 u20 u21 u22 u23 u24 u25 u26 u27 u28 u29 u30 u31 u32 u33 u34 u35 u36 u37 u38 u44 u45 u46 u47 u48 u49 u50 u51 u52 u53 u54 u55 u56 u57 u58 u59 u60 u61 u62 u63 u64 u65 u66 u67 u68 u69 u70 u71 u72 u73 u74 u86 u87 u88 u89 u90 u91 u92 u93 u94 u95 u96 u97 u98 u99 u100 u101 u102 u103 u104 u105 u106 u107 u108 u109 u110 u111 u112 u113 u114 u115 u116 u117 u118 u119 u120 u121 u122 u123 u124 u125 u126 u127 u128 u129 u130 u131 u132 u133 u134 u135 u136 u137 u138 u139 u140 u141 u142 u143 u144 u145 u146 u147 u148 u149 u150 u151 u152 u153 u154 u155 u156 u157 u158 u159 u160 u161 u162 u163 u164 u165 u166 u167 u168 u169 u170 u171 u172 u173 u174 u175 u176 u177 u178 u179 u180 u181 u182 u183 u184 u185 u186 u187 u188 u189 u190 u191 u192 u193 u194 u195 u196 u197 u198 u199 u200 u201 u202 u203 u204 u205 u206 u207 u208 u209 u210 u211 u212 u213 u214 u215 u216 u217 u218 u219 u220 u221 u222 u223 u224 u225 u226 u227 u228 u229 u230 u231 u232 u233 u234 u235 u236 u237 u238 u239 u240 u241 u242 u243 u244 u245 u246 u247 u248 u249 u250 u251 u252 u253 u254 u255 u256 u257 u258 u259 u260 u261 u262 u263 u264 u265 u266 u267 u268 u269 u270 u271 : Value} {g : GramM} {L R : List Bool} {w wr : World} {Bm Bi Bs Bp Bo stn : Nat} {sa pa fa wa : Option Addr} {st : Int} {va va1 : Option Addr} {vc vc1 : Nat} {ps : List ProdM}
    (HM : Hid (MayB g)) (HG : Hid (GIn w g)) (HGr : Hid (gramC g = #[.slice sa g.sorts.length g.sc, .slice pa g.prods.length g.pc, .int .i64 (stn : Int), .slice fa g.forbid.length g.fc, .slice wa g.follow.length g.wc]))
    (HPa : Hid (pa = g.pa)) (HFa : Hid (fa = g.fa)) (HWa : Hid (wa = g.wa))
    (hmp : g.prods.length ≤ 1000) (hms : g.sorts.length ≤ 1000) (hff : g.forbid.length ≤ 1048576) (hfw : g.follow.length ≤ 1048576)
    (HF' : Hid (∀ (R : List Bool) (h : GramM) (w' : World), ReachL g L R → KeptM g R h → GIn w' h → NilOK h → RTrimP g (.returned (.tuple #[gramV h, .bool true])) w')) (HRL : Hid (ReachL g L R))
    (HPlI : Hid (st = plI (sP R) g.start.toNat)) (HPS : Hid (ps.map bareP = (keepL (pP g R) g.prods).map fun x => bareP (movP (sP R) none 0 x)))
    (HTS : Hid (TS g L R w Bm Bi Bs Bp Bo g.sorts.length g.prods.length st (.slice va (keepL (sP R) g.sorts).length vc) (.slice va1 ps.length vc1) (.slice none 0 0) (.slice none 0 0) (keepL (sP R) g.sorts) ps [] [] wr))
    (K0 K1 : Act → World → Prop)
    (hK1 : ∀ (a : Act) (wz : World), Code.wp Try.prog (((Code.region 41 #[{ dst := some 18, op := Op.assign (Operand.const (Value.int IntKind.i64 0)), type := 3, pos := "ref.go:284", after := #[], guard := none }] false).seq (Code.block 10 (((Code.region 42 #[{ dst := some 233, op := Op.move (Operand.tmp 18), type := 3, pos := "ref.go:284", after := #[], guard := none }, { dst := some 234, op := Op.fieldAddr 27 (Operand.tmp 1) 4, type := 0, pos := "ref.go:284", after := #[], guard := none }, { dst := some 235, op := Op.load 25 (Operand.tmp 234), type := 25, pos := "ref.go:284", after := #[{ on := 1, ground := Ground.data }], guard := none }, { dst := some 236, op := Op.call { callee := Callee.builtin Builtin.len, args := #[Operand.tmp 235], argTypes := #[25] }, type := 3, pos := "ref.go:284", after := #[{ on := 2, ground := Ground.data }], guard := none }, { dst := some 237, op := Op.binOp BinOp.lss 3 (Operand.tmp 233) (Operand.tmp 236) 3, type := 4, pos := "ref.go:284", after := #[{ on := 0, ground := Ground.data }, { on := 3, ground := Ground.data }], guard := none }] false).seq (Code.cond (Operand.tmp 237) Code.skip (Code.exit 10))).seq ((Code.block 11 ((Code.region 44 #[{ dst := some 240, op := Op.move (Operand.tmp 6), type := 40, pos := "ref.go:285", after := #[], guard := none }, { dst := some 241, op := Op.fieldAddr 27 (Operand.tmp 1) 4, type := 0, pos := "ref.go:285", after := #[], guard := none }, { dst := some 242, op := Op.load 25 (Operand.tmp 241), type := 25, pos := "ref.go:285", after := #[{ on := 1, ground := Ground.data }], guard := none }, { dst := some 243, op := Op.move (Operand.tmp 18), type := 3, pos := "ref.go:285", after := #[], guard := none }, { dst := some 244, op := Op.indexAddr 25 (Operand.tmp 242) (Operand.tmp 243), type := 0, pos := "ref.go:285", after := #[{ on := 2, ground := Ground.data }, { on := 3, ground := Ground.data }], guard := none }, { dst := some 245, op := Op.fieldAddr 80 (Operand.tmp 244) 0, type := 0, pos := "ref.go:285", after := #[{ on := 4, ground := Ground.data }], guard := none }, { dst := some 246, op := Op.load 3 (Operand.tmp 245), type := 3, pos := "ref.go:285", after := #[{ on := 5, ground := Ground.data }], guard := none }, { dst := some 247, op := Op.indexAddr 40 (Operand.tmp 240) (Operand.tmp 246), type := 0, pos := "ref.go:285", after := #[{ on := 0, ground := Ground.data }, { on := 6, ground := Ground.data }], guard := none }, { dst := some 248, op := Op.load 3 (Operand.tmp 247), type := 3, pos := "ref.go:285", after := #[{ on := 7, ground := Ground.data }], guard := none }, { dst := some 249, op := Op.binOp BinOp.geq 3 (Operand.tmp 248) (Operand.const (Value.int IntKind.i64 0)) 3, type := 4, pos := "ref.go:285", after := #[{ on := 8, ground := Ground.data }], guard := none }] false).seq (Code.cond (Operand.tmp 249) (Code.region 45 #[{ dst := some 250, op := Op.fieldAddr 27 (Operand.tmp 8) 4, type := 0, pos := "ref.go:286", after := #[], guard := none }, { dst := some 251, op := Op.load 25 (Operand.tmp 250), type := 25, pos := "ref.go:286", after := #[{ on := 0, ground := Ground.data }], guard := none }, { dst := some 252, op := Op.move (Operand.tmp 6), type := 40, pos := "ref.go:286", after := #[], guard := none }, { dst := some 253, op := Op.fieldAddr 27 (Operand.tmp 1) 4, type := 0, pos := "ref.go:286", after := #[], guard := none }, { dst := some 254, op := Op.load 25 (Operand.tmp 253), type := 25, pos := "ref.go:286", after := #[{ on := 3, ground := Ground.data }], guard := none }, { dst := some 255, op := Op.move (Operand.tmp 18), type := 3, pos := "ref.go:286", after := #[], guard := none }, { dst := some 256, op := Op.indexAddr 25 (Operand.tmp 254) (Operand.tmp 255), type := 0, pos := "ref.go:286", after := #[{ on := 4, ground := Ground.data }, { on := 5, ground := Ground.data }], guard := none }, { dst := some 257, op := Op.fieldAddr 80 (Operand.tmp 256) 0, type := 0, pos := "ref.go:286", after := #[{ on := 6, ground := Ground.data }], guard := none }, { dst := some 258, op := Op.load 3 (Operand.tmp 257), type := 3, pos := "ref.go:286", after := #[{ on := 7, ground := Ground.data }], guard := none }, { dst := some 259, op := Op.indexAddr 40 (Operand.tmp 252) (Operand.tmp 258), type := 0, pos := "ref.go:286", after := #[{ on := 2, ground := Ground.data }, { on := 8, ground := Ground.data }], guard := none }, { dst := some 260, op := Op.load 3 (Operand.tmp 259), type := 3, pos := "ref.go:286", after := #[{ on := 9, ground := Ground.data }], guard := none }, { dst := some 261, op := Op.fieldAddr 27 (Operand.tmp 1) 4, type := 0, pos := "ref.go:286", after := #[], guard := none }, { dst := some 262, op := Op.load 25 (Operand.tmp 261), type := 25, pos := "ref.go:286", after := #[{ on := 11, ground := Ground.data }], guard := none }, { dst := some 263, op := Op.move (Operand.tmp 18), type := 3, pos := "ref.go:286", after := #[], guard := none }, { dst := some 264, op := Op.indexAddr 25 (Operand.tmp 262) (Operand.tmp 263), type := 0, pos := "ref.go:286", after := #[{ on := 12, ground := Ground.data }, { on := 13, ground := Ground.data }], guard := none }, { dst := some 265, op := Op.fieldAddr 80 (Operand.tmp 264) 1, type := 0, pos := "ref.go:286", after := #[{ on := 14, ground := Ground.data }], guard := none }, { dst := some 266, op := Op.load 66 (Operand.tmp 265), type := 66, pos := "ref.go:286", after := #[{ on := 15, ground := Ground.data }], guard := none }, { dst := some 267, op := Op.build 80 #[(0, Operand.tmp 260), (1, Operand.tmp 266)], type := 80, pos := "ref.go:286", after := #[{ on := 10, ground := Ground.data }, { on := 16, ground := Ground.data }], guard := none }, { dst := some 268, op := Op.buildSlice 25 1 #[(0, Operand.tmp 267)], type := 25, pos := "ref.go:286", after := #[{ on := 17, ground := Ground.data }], guard := none }, { dst := some 269, op := Op.call { callee := Callee.builtin Builtin.append, args := #[Operand.tmp 251, Operand.tmp 268], argTypes := #[25, 25] }, type := 25, pos := "ref.go:286", after := #[{ on := 1, ground := Ground.data }, { on := 18, ground := Ground.data }], guard := none }, { dst := some 270, op := Op.fieldAddr 27 (Operand.tmp 8) 4, type := 0, pos := "ref.go:286", after := #[{ on := 0, ground := Ground.phase }, { on := 1, ground := Ground.phase }, { on := 2, ground := Ground.phase }, { on := 3, ground := Ground.phase }, { on := 4, ground := Ground.phase }, { on := 5, ground := Ground.phase }, { on := 6, ground := Ground.phase }, { on := 7, ground := Ground.phase }, { on := 8, ground := Ground.phase }, { on := 9, ground := Ground.phase }, { on := 10, ground := Ground.phase }, { on := 11, ground := Ground.phase }, { on := 12, ground := Ground.phase }, { on := 13, ground := Ground.phase }, { on := 14, ground := Ground.phase }, { on := 15, ground := Ground.phase }, { on := 16, ground := Ground.phase }, { on := 17, ground := Ground.phase }, { on := 18, ground := Ground.phase }, { on := 19, ground := Ground.phase }], guard := none }, { dst := none, op := Op.store 25 (Operand.tmp 270) (Operand.tmp 269), type := 0, pos := "ref.go:286", after := #[{ on := 20, ground := Ground.data }, { on := 19, ground := Ground.data }, { on := 19, ground := Ground.chain }, { on := 0, ground := Ground.phase }, { on := 1, ground := Ground.phase }, { on := 2, ground := Ground.phase }, { on := 3, ground := Ground.phase }, { on := 4, ground := Ground.phase }, { on := 5, ground := Ground.phase }, { on := 6, ground := Ground.phase }, { on := 7, ground := Ground.phase }, { on := 8, ground := Ground.phase }, { on := 9, ground := Ground.phase }, { on := 10, ground := Ground.phase }, { on := 11, ground := Ground.phase }, { on := 12, ground := Ground.phase }, { on := 13, ground := Ground.phase }, { on := 14, ground := Ground.phase }, { on := 15, ground := Ground.phase }, { on := 16, ground := Ground.phase }, { on := 17, ground := Ground.phase }, { on := 18, ground := Ground.phase }, { on := 19, ground := Ground.phase }], guard := none }] true) Code.skip))).seq (Code.region 43 #[{ dst := some 238, op := Op.move (Operand.tmp 18), type := 3, pos := "ref.go:284", after := #[], guard := none }, { dst := some 239, op := Op.binOp BinOp.add 3 (Operand.tmp 238) (Operand.const (Value.int IntKind.i64 1)) 3, type := 3, pos := "ref.go:284", after := #[{ on := 0, ground := Ground.data }], guard := none }, { dst := some 18, op := Op.assign (Operand.tmp 239), type := 3, pos := "ref.go:284", after := #[{ on := 1, ground := Ground.data }, { on := 0, ground := Ground.phase }, { on := 1, ground := Ground.phase }], guard := none }] false))).loop)).seq ((Code.region 46 #[{ dst := some 271, op := Op.load 27 (Operand.tmp 8), type := 27, pos := "ref.go:289", after := #[], guard := none }, { dst := none, op := Op.store 27 (Operand.tmp 2) (Operand.tmp 271), type := 0, pos := "ref.go:289", after := #[{ on := 0, ground := Ground.data }, { on := 0, ground := Ground.phase }], guard := none }, { dst := some 3, op := Op.assign (Operand.const (Value.bool true)), type := 4, pos := "ref.go:289", after := #[{ on := 1, ground := Ground.chain }, { on := 0, ground := Ground.phase }, { on := 1, ground := Ground.phase }], guard := none }] false).seq Code.ret)) (bodyPost Try.prog Try.f26 fun e w' => RTrimP g e w' ∧ Below w.heap.size w w') a wz → K1 a wz)
    (hK0 : ∀ (a : Act) (wz : World), Code.wp Try.prog (Code.block 8 (((Code.region 36 #[{ dst := some 189, op := Op.move (Operand.tmp 16), type := 3, pos := "ref.go:278", after := #[], guard := none }, { dst := some 190, op := Op.fieldAddr 27 (Operand.tmp 1) 3, type := 0, pos := "ref.go:278", after := #[], guard := none }, { dst := some 191, op := Op.load 24 (Operand.tmp 190), type := 24, pos := "ref.go:278", after := #[{ on := 1, ground := Ground.data }], guard := none }, { dst := some 192, op := Op.call { callee := Callee.builtin Builtin.len, args := #[Operand.tmp 191], argTypes := #[24] }, type := 3, pos := "ref.go:278", after := #[{ on := 2, ground := Ground.data }], guard := none }, { dst := some 193, op := Op.binOp BinOp.lss 3 (Operand.tmp 189) (Operand.tmp 192) 3, type := 4, pos := "ref.go:278", after := #[{ on := 0, ground := Ground.data }, { on := 3, ground := Ground.data }], guard := none }] false).seq (Code.cond (Operand.tmp 193) Code.skip (Code.exit 8))).seq ((Code.block 9 ((Code.region 38 #[{ dst := some 196, op := Op.fieldAddr 27 (Operand.tmp 1) 3, type := 0, pos := "ref.go:279", after := #[], guard := none }, { dst := some 197, op := Op.load 24 (Operand.tmp 196), type := 24, pos := "ref.go:279", after := #[{ on := 0, ground := Ground.data }], guard := none }, { dst := some 198, op := Op.move (Operand.tmp 16), type := 3, pos := "ref.go:279", after := #[], guard := none }, { dst := some 199, op := Op.indexAddr 24 (Operand.tmp 197) (Operand.tmp 198), type := 0, pos := "ref.go:279", after := #[{ on := 1, ground := Ground.data }, { on := 2, ground := Ground.data }], guard := none }, { dst := some 200, op := Op.load 78 (Operand.tmp 199), type := 78, pos := "ref.go:279", after := #[{ on := 3, ground := Ground.data }], guard := none }, { dst := some 17, op := Op.alloc 78, type := 0, pos := "ref.go:279", after := #[], guard := none }, { dst := none, op := Op.store 78 (Operand.tmp 17) (Operand.tmp 200), type := 0, pos := "ref.go:279", after := #[{ on := 5, ground := Ground.data }, { on := 4, ground := Ground.data }, { on := 0, ground := Ground.phase }, { on := 1, ground := Ground.phase }, { on := 2, ground := Ground.phase }, { on := 3, ground := Ground.phase }, { on := 4, ground := Ground.phase }, { on := 5, ground := Ground.phase }], guard := none }] false).seq ((Code.region 39 #[{ dst := some 201, op := Op.move (Operand.tmp 7), type := 40, pos := "ref.go:280", after := #[], guard := none }, { dst := some 202, op := Op.fieldAddr 78 (Operand.tmp 17) 0, type := 0, pos := "ref.go:280", after := #[], guard := none }, { dst := some 203, op := Op.load 3 (Operand.tmp 202), type := 3, pos := "ref.go:280", after := #[{ on := 1, ground := Ground.data }], guard := none }, { dst := some 204, op := Op.indexAddr 40 (Operand.tmp 201) (Operand.tmp 203), type := 0, pos := "ref.go:280", after := #[{ on := 0, ground := Ground.data }, { on := 2, ground := Ground.data }], guard := none }, { dst := some 205, op := Op.load 3 (Operand.tmp 204), type := 3, pos := "ref.go:280", after := #[{ on := 3, ground := Ground.data }], guard := none }, { dst := some 206, op := Op.binOp BinOp.geq 3 (Operand.tmp 205) (Operand.const (Value.int IntKind.i64 0)) 3, type := 4, pos := "ref.go:280", after := #[{ on := 4, ground := Ground.data }], guard := none }, { dst := some 207, op := Op.move (Operand.tmp 206), type := 4, pos := "ref.go:280", after := #[{ on := 5, ground := Ground.data }], guard := none }, { dst := some 208, op := Op.move (Operand.tmp 7), type := 40, pos := "ref.go:280", after := #[{ on := 6, ground := Ground.guard }], guard := some (6, true) }, { dst := some 209, op := Op.fieldAddr 78 (Operand.tmp 17) 2, type := 0, pos := "ref.go:280", after := #[{ on := 6, ground := Ground.guard }], guard := some (6, true) }, { dst := some 210, op := Op.load 3 (Operand.tmp 209), type := 3, pos := "ref.go:280", after := #[{ on := 8, ground := Ground.data }, { on := 6, ground := Ground.guard }], guard := some (6, true) }, { dst := some 211, op := Op.indexAddr 40 (Operand.tmp 208) (Operand.tmp 210), type := 0, pos := "ref.go:280", after := #[{ on := 7, ground := Ground.data }, { on := 9, ground := Ground.data }, { on := 6, ground := Ground.guard }], guard := some (6, true) }, { dst := some 212, op := Op.load 3 (Operand.tmp 211), type := 3, pos := "ref.go:280", after := #[{ on := 10, ground := Ground.data }, { on := 6, ground := Ground.guard }], guard := some (6, true) }, { dst := some 213, op := Op.binOp BinOp.geq 3 (Operand.tmp 212) (Operand.const (Value.int IntKind.i64 0)) 3, type := 4, pos := "ref.go:280", after := #[{ on := 11, ground := Ground.data }, { on := 6, ground := Ground.guard }], guard := some (6, true) }, { dst := some 214, op := Op.pick (Operand.tmp 207) (Operand.tmp 213) (Operand.const (Value.bool false)), type := 4, pos := "ref.go:280", after := #[{ on := 6, ground := Ground.data }, { on := 12, ground := Ground.data }], guard := none }] false).seq (Code.cond (Operand.tmp 214) (Code.region 40 #[{ dst := some 215, op := Op.fieldAddr 27 (Operand.tmp 8) 3, type := 0, pos := "ref.go:281", after := #[], guard := none }, { dst := some 216, op := Op.load 24 (Operand.tmp 215), type := 24, pos := "ref.go:281", after := #[{ on := 0, ground := Ground.data }], guard := none }, { dst := some 217, op := Op.move (Operand.tmp 7), type := 40, pos := "ref.go:281", after := #[], guard := none }, { dst := some 218, op := Op.fieldAddr 78 (Operand.tmp 17) 0, type := 0, pos := "ref.go:281", after := #[], guard := none }, { dst := some 219, op := Op.load 3 (Operand.tmp 218), type := 3, pos := "ref.go:281", after := #[{ on := 3, ground := Ground.data }], guard := none }, { dst := some 220, op := Op.indexAddr 40 (Operand.tmp 217) (Operand.tmp 219), type := 0, pos := "ref.go:281", after := #[{ on := 2, ground := Ground.data }, { on := 4, ground := Ground.data }], guard := none }, { dst := some 221, op := Op.load 3 (Operand.tmp 220), type := 3, pos := "ref.go:281", after := #[{ on := 5, ground := Ground.data }], guard := none }, { dst := some 222, op := Op.fieldAddr 78 (Operand.tmp 17) 1, type := 0, pos := "ref.go:281", after := #[], guard := none }, { dst := some 223, op := Op.load 3 (Operand.tmp 222), type := 3, pos := "ref.go:281", after := #[{ on := 7, ground := Ground.data }], guard := none }, { dst := some 224, op := Op.move (Operand.tmp 7), type := 40, pos := "ref.go:281", after := #[], guard := none }, { dst := some 225, op := Op.fieldAddr 78 (Operand.tmp 17) 2, type := 0, pos := "ref.go:281", after := #[], guard := none }, { dst := some 226, op := Op.load 3 (Operand.tmp 225), type := 3, pos := "ref.go:281", after := #[{ on := 10, ground := Ground.data }], guard := none }, { dst := some 227, op := Op.indexAddr 40 (Operand.tmp 224) (Operand.tmp 226), type := 0, pos := "ref.go:281", after := #[{ on := 9, ground := Ground.data }, { on := 11, ground := Ground.data }], guard := none }, { dst := some 228, op := Op.load 3 (Operand.tmp 227), type := 3, pos := "ref.go:281", after := #[{ on := 12, ground := Ground.data }], guard := none }, { dst := some 229, op := Op.build 78 #[(0, Operand.tmp 221), (1, Operand.tmp 223), (2, Operand.tmp 228)], type := 78, pos := "ref.go:281", after := #[{ on := 6, ground := Ground.data }, { on := 8, ground := Ground.data }, { on := 13, ground := Ground.data }], guard := none }, { dst := some 230, op := Op.buildSlice 24 1 #[(0, Operand.tmp 229)], type := 24, pos := "ref.go:281", after := #[{ on := 14, ground := Ground.data }], guard := none }, { dst := some 231, op := Op.call { callee := Callee.builtin Builtin.append, args := #[Operand.tmp 216, Operand.tmp 230], argTypes := #[24, 24] }, type := 24, pos := "ref.go:281", after := #[{ on := 1, ground := Ground.data }, { on := 15, ground := Ground.data }], guard := none }, { dst := some 232, op := Op.fieldAddr 27 (Operand.tmp 8) 3, type := 0, pos := "ref.go:281", after := #[{ on := 0, ground := Ground.phase }, { on := 1, ground := Ground.phase }, { on := 2, ground := Ground.phase }, { on := 3, ground := Ground.phase }, { on := 4, ground := Ground.phase }, { on := 5, ground := Ground.phase }, { on := 6, ground := Ground.phase }, { on := 7, ground := Ground.phase }, { on := 8, ground := Ground.phase }, { on := 9, ground := Ground.phase }, { on := 10, ground := Ground.phase }, { on := 11, ground := Ground.phase }, { on := 12, ground := Ground.phase }, { on := 13, ground := Ground.phase }, { on := 14, ground := Ground.phase }, { on := 15, ground := Ground.phase }, { on := 16, ground := Ground.phase }], guard := none }, { dst := none, op := Op.store 24 (Operand.tmp 232) (Operand.tmp 231), type := 0, pos := "ref.go:281", after := #[{ on := 17, ground := Ground.data }, { on := 16, ground := Ground.data }, { on := 16, ground := Ground.chain }, { on := 0, ground := Ground.phase }, { on := 1, ground := Ground.phase }, { on := 2, ground := Ground.phase }, { on := 3, ground := Ground.phase }, { on := 4, ground := Ground.phase }, { on := 5, ground := Ground.phase }, { on := 6, ground := Ground.phase }, { on := 7, ground := Ground.phase }, { on := 8, ground := Ground.phase }, { on := 9, ground := Ground.phase }, { on := 10, ground := Ground.phase }, { on := 11, ground := Ground.phase }, { on := 12, ground := Ground.phase }, { on := 13, ground := Ground.phase }, { on := 14, ground := Ground.phase }, { on := 15, ground := Ground.phase }, { on := 16, ground := Ground.phase }], guard := none }] true) Code.skip)))).seq (Code.region 37 #[{ dst := some 194, op := Op.move (Operand.tmp 16), type := 3, pos := "ref.go:278", after := #[], guard := none }, { dst := some 195, op := Op.binOp BinOp.add 3 (Operand.tmp 194) (Operand.const (Value.int IntKind.i64 1)) 3, type := 3, pos := "ref.go:278", after := #[{ on := 0, ground := Ground.data }], guard := none }, { dst := some 16, op := Op.assign (Operand.tmp 195), type := 3, pos := "ref.go:278", after := #[{ on := 1, ground := Ground.data }, { on := 0, ground := Ground.phase }, { on := 1, ground := Ground.phase }], guard := none }] false))).loop) (Exit.then K1 (bodyPost Try.prog Try.f26 fun e w' => RTrimP g e w' ∧ Below w.heap.size w w')) a wz → K0 a wz)
    : Code.wp Try.prog (Code.region 35 #[{ dst := some 16, op := Op.assign (Operand.const (Value.int IntKind.i64 0)), type := 3, pos := "ref.go:278", after := #[], guard := none }] false) (Exit.then K0 (Exit.then K1 (bodyPost Try.prog Try.f26 fun e w' => RTrimP g e w' ∧ Below w.heap.size w w'))) { tmps := #[Value.agg #[Value.slice sa g.sorts.length g.sc, Value.slice pa g.prods.length g.pc, Value.int IntKind.i64 ((stn : Nat) : Int), Value.slice fa g.forbid.length g.fc, Value.slice wa g.follow.length g.wc], Value.pointer (some { block := w.heap.size, off := 0 }), Value.pointer (some { block := w.heap.size + 1, off := 0 }), Value.bool false, Value.slice (some { block := Bm, off := 0 }) g.sorts.length g.sorts.length, Value.slice (some { block := Bi, off := 0 }) g.sorts.length g.sorts.length, Value.slice (some { block := Bs, off := 0 }) g.sorts.length g.sorts.length, Value.slice (some { block := Bp, off := 0 }) g.prods.length g.prods.length, Value.pointer (some { block := Bo, off := 0 }), Value.int IntKind.i64 ((g.sorts.length : Nat) : Int), Value.int IntKind.i64 ((g.prods.length : Nat) : Int), u11, u12, u13, u14, u15, undef, undef, undef, u19, u20, u21, u22, u23, u24, u25, u26, u27, u28, u29, u30, u31, u32, u33, u34, u35, u36, u37, u38, Value.int IntKind.i64 ((g.sorts.length : Nat) : Int), Value.pointer (some { block := w.heap.size, off := 0 }), Value.slice sa g.sorts.length g.sc, Value.int IntKind.i64 ((g.sorts.length : Nat) : Int), Value.bool false, u44, u45, u46, u47, u48, u49, u50, u51, u52, u53, u54, u55, u56, u57, u58, u59, u60, u61, u62, u63, u64, u65, u66, u67, u68, u69, u70, u71, u72, u73, u74, Value.slice (some { block := Bs, off := 0 }) g.sorts.length g.sorts.length, Value.pointer (some { block := w.heap.size, off := 2 }), Value.int IntKind.i64 ((stn : Nat) : Int), Value.pointer (some { block := Bs, off := stn }), Value.int IntKind.i64 st, Value.pointer (some { block := Bo, off := 2 }), Value.int IntKind.i64 ((g.prods.length : Nat) : Int), Value.pointer (some { block := w.heap.size, off := 1 }), Value.slice pa g.prods.length g.pc, Value.int IntKind.i64 ((g.prods.length : Nat) : Int), Value.bool false, u86, u87, u88, u89, u90, u91, u92, u93, u94, u95, u96, u97, u98, u99, u100, u101, u102, u103, u104, u105, u106, u107, u108, u109, u110, u111, u112, u113, u114, u115, u116, u117, u118, u119, u120, u121, u122, u123, u124, u125, u126, u127, u128, u129, u130, u131, u132, u133, u134, u135, u136, u137, u138, u139, u140, u141, u142, u143, u144, u145, u146, u147, u148, u149, u150, u151, u152, u153, u154, u155, u156, u157, u158, u159, u160, u161, u162, u163, u164, u165, u166, u167, u168, u169, u170, u171, u172, u173, u174, u175, u176, u177, u178, u179, u180, u181, u182, u183, u184, u185, u186, u187, u188, u189, u190, u191, u192, u193, u194, u195, u196, u197, u198, u199, u200, u201, u202, u203, u204, u205, u206, u207, u208, u209, u210, u211, u212, u213, u214, u215, u216, u217, u218, u219, u220, u221, u222, u223, u224, u225, u226, u227, u228, u229, u230, u231, u232, u233, u234, u235, u236, u237, u238, u239, u240, u241, u242, u243, u244, u245, u246, u247, u248, u249, u250, u251, u252, u253, u254, u255, u256, u257, u258, u259, u260, u261, u262, u263, u264, u265, u266, u267, u268, u269, u270, u271], defers := [] } wr := by
  obtain ⟨i78, ti78, tz78, ts78, tb78⟩ := info_parts Try.info78
  obtain ⟨i80, ti80, tz80, ts80, tb80⟩ := info_parts Try.info80
  have gg0 := HTS.out.bg
  rw [HGr.out] at gg0
  obtain ⟨c0, c1, c2, c3, c4⟩ := cells5 gg0
  have l0 := gg0.lt
  clear gg0
  go_wp2_with fail
  go_loopw [16] (fun i wr => ∃ k : Nat, i = .int .i64 k ∧ k ≤ g.forbid.length ∧ ∃ v3 fs, Hid (TS g L R w Bm Bi Bs Bp Bo g.sorts.length g.prods.length st (.slice va (keepL (sP R) g.sorts).length vc) (.slice va1 ps.length vc1) v3 (.slice none 0 0) (keepL (sP R) g.sorts) ps fs [] wr)
      ∧ Hid (fs = (g.forbid.take k).filterMap (movF (pP g R))))
    (fun i _ => g.forbid.length - (intOf i).toNat)
  case atStart => exact ⟨0, rfl, Nat.zero_le _, _, [], HTS, Lib.hid rfl⟩
  case round =>
    clear HTS c0 c1 c2 c3 c4 l0
    obtain ⟨k, rfl, hk, v3, fs, hts, hfs⟩ := hrel
    have hts' := hts.out
    obtain ⟨va3, vc3, rfl, _, _⟩ := own_slice hts'.r3
    have gg := hts'.bg
    rw [HGr.out] at gg
    obtain ⟨c0, c1, c2, c3, c4⟩ := cells5 gg
    have l0 := gg.lt
    by_cases hlt : k < g.forbid.length
    · obtain ⟨f, hfk⟩ : ∃ f, g.forbid[k]? = some f := ⟨_, List.getElem?_eq_getElem hlt⟩
      have hmem := List.mem_of_getElem? hfk
      obtain ⟨b, off, hfa, hbw, hc, _⟩ := HG.out.forbid k f hfk
      rw [← HFa.out] at hfa
      subst hfa
      obtain ⟨⟨i, hi, hin⟩, ⟨j, hj, hjn⟩⟩ := HM.out.forb f hmem
      obtain ⟨e0, e1, e2⟩ := For_at (hc.below hts'.b hbw)
      have n1 : (k : Int) < (g.forbid.length : Int) := by omega
      have ti : (i : Int) < (g.prods.length : Int) := by omega
      have tj : (j : Int) < (g.prods.length : Int) := by omega
      have lb : b < wr.heap.size := Nat.lt_of_lt_of_le hbw hts'.b.size
      have HTk := Lib.hid (take_snoc g.forbid k f hfk)
      obtain ⟨fp, fat, fch⟩ := f
      dsimp only at *
      subst hi
      subst hj
      have HMf : Hid (movF (pP g R) ⟨(i : Int), fat, (j : Int)⟩ = if plI (pP g R) i ≠ -1 ∧ plI (pP g R) j ≠ -1 then some ⟨plI (pP g R) i, fat, plI (pP g R) j⟩ else none) := Lib.hid (by unfold movF; simp only [Int.toNat_natCast])
      have lfs : fs.length ≤ k := by rw [hfs.out]; exact Nat.le_trans (List.length_filterMap_le _ _) (by rw [List.length_take]; omega)
      obtain ⟨m, hm⟩ : ∃ m, m = movF (pP g R) ⟨(i : Int), fat, (j : Int)⟩ := ⟨_, rfl⟩
      rw [← hm] at HMf
      have HFS : Hid ((g.forbid.take (k + 1)).filterMap (movF (pP g R)) = fs ++ m.toList) := Lib.hid (by rw [HTk.out, fm_snoc, ← hfs.out, hm])
      obtain ⟨W4, hW4⟩ : ∃ W4, W4 = wr.alloc (.cells #[.int .i64 (i : Int), .int .i64 fat, .int .i64 (j : Int)] 78) := ⟨_, rfl⟩
      have hB4 : Below wr.heap.size wr W4 := by rw [hW4]; exact (Below.refl _ _).alloc (Nat.le_refl _) _
      have H4 := Lib.hid (hts'.below hB4)
      have hbx : Blk W4 wr.heap.size 78 #[.int .i64 (i : Int), .int .i64 fat, .int .i64 (j : Int)] := by rw [hW4]; exact Blk.new wr 78 _
      have Hbx := Lib.hid hbx
      have HHi := Lib.hid (high_ne hts'.r3 (Nat.le_refl _))
      have x0 := hbx.cell 0
      have x1 := hbx.cell 1
      have x2 := hbx.cell 2
      simp only [List.getElem?_toArray, List.getElem?_cons_zero, List.getElem?_cons_succ] at x0 x1 x2
      have lx := hbx.lt
      have p1 := H4.out.bp.cell hin
      have p2 := H4.out.bp.cell hjn
      have lbp := H4.out.bp.lt
      have HPL1 : Hid (pP g R i = false → plI (pP g R) i = -1) := Lib.hid (plI_gone _ _)
      have HPL1' : Hid (pP g R i = true → ∃ c : Nat, plI (pP g R) i = c) := Lib.hid (plI_neq _ _)
      have HPL2 : Hid (pP g R j = false → plI (pP g R) j = -1) := Lib.hid (plI_gone _ _)
      have HPL2' : Hid (pP g R j = true → ∃ c : Nat, plI (pP g R) j = c) := Lib.hid (plI_neq _ _)
      obtain ⟨u1, hu1⟩ : ∃ u, u = plI (pP g R) i := ⟨_, rfl⟩
      obtain ⟨u2, hu2⟩ : ∃ u, u = plI (pP g R) j := ⟨_, rfl⟩
      have HU1 := Lib.hid hu1.symm
      have HU2 := Lib.hid hu2.symm
      rw [← hu1] at p1 HMf HPL1 HPL1'
      rw [← hu2] at p2 HMf HPL2 HPL2'
      clear hfk hc hm HTk hu1 hu2 hmem hts' hts hfs gg hB4 hbx
      go_upto_region 39 with fail
      rw [← hW4]
      clear hW4 e0 e1 e2 c0 c1 c2 c3 c4 l0 lb
      cases h1 : pP g R i with
      | false =>
        obtain rfl := HPL1.out h1
        have HN : Hid (fs = (g.forbid.take (k + 1)).filterMap (movF (pP g R))) := Lib.hid (by
          rw [HFS.out, HMf.out, if_neg (by simp)]; simp)
        go_wp2
        go_roundw
        case rel => exact ⟨k + 1, by go_num, by omega, _, fs, H4, HN⟩
        case measure => simp [intOf]; omega
      | true =>
        obtain ⟨c1, rfl⟩ := HPL1'.out h1
        have z1 : (0 : Int) ≤ (c1 : Int) := by omega
        have z1' : decide ((0 : Int) ≤ (c1 : Int)) = true := by simp
        clear HPL1 HPL1' h1
        cases h2 : pP g R j with
        | false =>
          obtain rfl := HPL2.out h2
          have HN : Hid (fs = (g.forbid.take (k + 1)).filterMap (movF (pP g R))) := Lib.hid (by
            rw [HFS.out, HMf.out, if_neg (by simp)]; simp)
          go_wp2
          go_roundw
          case rel => exact ⟨k + 1, by go_num, by omega, _, fs, H4, HN⟩
          case measure => simp [intOf]; omega
        | true =>
          obtain ⟨c2, rfl⟩ := HPL2'.out h2
          have z2 : (0 : Int) ≤ (c2 : Int) := by omega
          have z2' : decide ((0 : Int) ≤ (c2 : Int)) = true := by simp
          clear HPL2 HPL2' h2
          have HN : Hid (fs ++ [⟨(c1 : Int), fat, (c2 : Int)⟩] = (g.forbid.take (k + 1)).filterMap (movF (pP g R))) := Lib.hid (by
            rw [HFS.out, HMf.out, if_pos ⟨by omega, by omega⟩]; rfl)
          have d3 := H4.out.bo.cell 3
          simp only [List.getElem?_toArray, List.getElem?_cons_zero, List.getElem?_cons_succ] at d3
          have lo := H4.out.bo.lt
          have lN := H4.out.lt
          have HTd := Lib.hid (H4.out.below (Below.refl _ W4).drew)
          have HCN := Lib.hid (cells_new W4.drew #[.int .i64 (c1 : Int), .int .i64 fat, .int .i64 (c2 : Int)] 78)
          have hsz3 : W4.drew.heap.size = W4.heap.size := rfl
          go_upto_region 40 with fail
          obtain ⟨g5, cap5, w5, hrun5, hown5, hgrow5, hat5, hlt5⟩ := run_append_lies (P := Try.prog) (W4.drew.alloc (.cells #[.int .i64 (c1 : Int), .int .i64 fat, .int .i64 (c2 : Int)] 78)) 24 24 (Bo + 1) 78 i78 (.agg #[.int .i64 0, .int .i64 0, .int .i64 0]) 3 24 Try.underlying24 ti78 tz78 ts78 tb78 rfl (by decide) (.slice va3 fs.length vc3) fs.length (cellsL forC fs) (HTd.out.r3.alloc _) ⟨W4.heap.size, 0, none⟩ 1 1 [.int .i64 (c1 : Int), .int .i64 fat, .int .i64 (c2 : Int)] rfl HCN.out (by simp [Value.oneCell']) (by omega) (by unfold maxLen; omega) (by omega) (by simp; omega) _ rfl
          have hka := HTd.out.below ((Below.refl W4.drew.heap.size W4.drew).alloc (Nat.le_refl _) (.cells #[.int .i64 (c1 : Int), .int .i64 fat, .int .i64 (c2 : Int)] 78))
          have hbo5 := hka.boxo hka.r3 hgrow5
          have f5 := hbo5.frozen 3
          have l5 := hbo5.lt
          have c5 := hbo5.cell 3
          simp only [List.getElem?_toArray, List.getElem?_cons_zero, List.getElem?_cons_succ] at c5
          have HL : Hid (∀ W, (∃ k, k < 3 ∧ W = four W4.drew (W4.drew.alloc (.cells #[.int .i64 (c1 : Int), .int .i64 fat, .int .i64 (c2 : Int)] 78)) w5 (w5.setCell ⟨Bo, 3, none⟩ (.slice (some ⟨g5, 0, none⟩) (fs.length + 1) cap5)) k) →
              W.cell? ⟨Bo, 3, none⟩ = some (.slice va3 fs.length vc3) ∧ W.cell? ⟨wr.heap.size, 0, none⟩ = some (.int .i64 (i : Nat)) ∧ W.cell? ⟨wr.heap.size, 1, none⟩ = some (.int .i64 fat) ∧ W.cell? ⟨wr.heap.size, 2, none⟩ = some (.int .i64 (j : Nat))
                ∧ W.cell? ⟨Bp, 0 + i, none⟩ = some (.int .i64 (c1 : Nat)) ∧ W.cell? ⟨Bp, 0 + j, none⟩ = some (.int .i64 (c2 : Nat))) := Lib.hid (by
            have hx3 : Blk w5 wr.heap.size 78 #[.int .i64 (i : Int), .int .i64 fat, .int .i64 (j : Int)] := (Hbx.out.drew.alloc _).kept hgrow5 HHi.out
            have hp3 : PLn w5 Bp g.prods.length g.prods.length (pP g R) := hka.bp.to (hgrow5.block Bp hka.bp.lt (low_ne hka.r3 (by have := hka.num; omega)))
            rw [Nat.zero_add, Nat.zero_add]
            intro W hW
            rcases four_lt hW with rfl | rfl | rfl
            · exact ⟨HTd.out.bo.cell 3, Hbx.out.drew.cell 0, Hbx.out.drew.cell 1, Hbx.out.drew.cell 2, (HTd.out.bp.cell hin).trans (by rw [HU1.out]), (HTd.out.bp.cell hjn).trans (by rw [HU2.out])⟩
            · exact ⟨hka.bo.cell 3, (Hbx.out.drew.alloc _).cell 0, (Hbx.out.drew.alloc _).cell 1, (Hbx.out.drew.alloc _).cell 2, (hka.bp.cell hin).trans (by rw [HU1.out]), (hka.bp.cell hjn).trans (by rw [HU2.out])⟩
            · exact ⟨hbo5.cell 3, hx3.cell 0, hx3.cell 1, hx3.cell 2, (hp3.cell hin).trans (by rw [HU1.out]), (hp3.cell hjn).trans (by rw [HU2.out])⟩)
          have HKN := Lib.hid (hka.push3 ⟨(c1 : Int), fat, (c2 : Int)⟩ _ hgrow5 hown5)
          clear hka hbo5 hown5 hgrow5 z1 z1' z2 z2'
          refine wp_region_chain [15, 16, 18] 18 (four W4.drew (W4.drew.alloc (.cells #[.int .i64 (c1 : Int), .int .i64 fat, .int .i64 (c2 : Int)] 78)) w5 (w5.setCell ⟨Bo, 3, none⟩ (.slice (some ⟨g5, 0, none⟩) (fs.length + 1) cap5)))
            [.pointer (some ⟨Bo, 3, none⟩), .slice va3 fs.length vc3, .slice (some ⟨Bp, 0, none⟩) g.prods.length g.prods.length, .pointer (some ⟨wr.heap.size, 0, none⟩), .int .i64 (i : Nat), .pointer (some ⟨Bp, 0 + i, none⟩), .int .i64 (c1 : Nat), .pointer (some ⟨wr.heap.size, 1, none⟩), .int .i64 fat, .slice (some ⟨Bp, 0, none⟩) g.prods.length g.prods.length, .pointer (some ⟨wr.heap.size, 2, none⟩), .int .i64 (j : Nat), .pointer (some ⟨Bp, 0 + j, none⟩), .int .i64 (c2 : Nat), .agg #[.int .i64 (c1 : Nat), .int .i64 fat, .int .i64 (c2 : Nat)], .slice (some ⟨W4.drew.heap.size, 0, none⟩) 1 1, .slice (some ⟨g5, 0, none⟩) (fs.length + 1) cap5, .pointer (some ⟨Bo, 3, none⟩), undef]
            #[.agg #[.slice sa g.sorts.length g.sc, .slice pa g.prods.length g.pc, .int .i64 (stn : Nat), .slice (some ⟨b, off, none⟩) g.forbid.length g.fc, .slice wa g.follow.length g.wc], .pointer (some ⟨w.heap.size, 0, none⟩), .pointer (some ⟨w.heap.size + 1, 0, none⟩), .bool false, .slice (some ⟨Bm, 0, none⟩) g.sorts.length g.sorts.length, .slice (some ⟨Bi, 0, none⟩) g.sorts.length g.sorts.length, .slice (some ⟨Bs, 0, none⟩) g.sorts.length g.sorts.length, .slice (some ⟨Bp, 0, none⟩) g.prods.length g.prods.length, .pointer (some ⟨Bo, 0, none⟩), .int .i64 (g.sorts.length : Nat), .int .i64 (g.prods.length : Nat), u11, u12, u13, u14, u15, .int .i64 (k : Nat), .pointer (some ⟨wr.heap.size, 0, none⟩), undef, u19, u20, u21, u22, u23, u24, u25, u26, u27, u28, u29, u30, u31, u32, u33, u34, u35, u36, u37, u38, .int .i64 (g.sorts.length : Nat), .pointer (some ⟨w.heap.size, 0, none⟩), .slice sa g.sorts.length g.sc, .int .i64 (g.sorts.length : Nat), .bool false, u44, u45, u46, u47, u48, u49, u50, u51, u52, u53, u54, u55, u56, u57, u58, u59, u60, u61, u62, u63, u64, u65, u66, u67, u68, u69, u70, u71, u72, u73, u74, .slice (some ⟨Bs, 0, none⟩) g.sorts.length g.sorts.length, .pointer (some ⟨w.heap.size, 2, none⟩), .int .i64 (stn : Nat), .pointer (some ⟨Bs, stn, none⟩), .int .i64 st, .pointer (some ⟨Bo, 2, none⟩), .int .i64 (g.prods.length : Nat), .pointer (some ⟨w.heap.size, 1, none⟩), .slice pa g.prods.length g.pc, .int .i64 (g.prods.length : Nat), .bool false, u86, u87, u88, u89, u90, u91, u92, u93, u94, u95, u96, u97, u98, u99, u100, u101, u102, u103, u104, u105, u106, u107, u108, u109, u110, u111, u112, u113, u114, u115, u116, u117, u118, u119, u120, u121, u122, u123, u124, u125, u126, u127, u128, u129, u130, u131, u132, u133, u134, u135, u136, u137, u138, u139, u140, u141, u142, u143, u144, u145, u146, u147, u148, u149, u150, u151, u152, u153, u154, u155, u156, u157, u158, u159, u160, u161, u162, u163, u164, u165, u166, u167, u168, u169, u170, u171, u172, u173, u174, u175, u176, u177, u178, u179, u180, u181, u182, u183, u184, u185, u186, u187, u188, .int .i64 (k : Nat), .pointer (some ⟨w.heap.size, 3, none⟩), .slice (some ⟨b, off, none⟩) g.forbid.length g.fc, .int .i64 (g.forbid.length : Nat), .bool true, u194, u195, .pointer (some ⟨w.heap.size, 3, none⟩), .slice (some ⟨b, off, none⟩) g.forbid.length g.fc, .int .i64 (k : Nat), .pointer (some ⟨b, off + k * 3, none⟩), .agg #[.int .i64 (i : Nat), .int .i64 fat, .int .i64 (j : Nat)], .slice (some ⟨Bp, 0, none⟩) g.prods.length g.prods.length, .pointer (some ⟨wr.heap.size, 0, none⟩), .int .i64 (i : Nat), .pointer (some ⟨Bp, i, none⟩), .int .i64 (c1 : Nat), .bool true, .bool true, .slice (some ⟨Bp, 0, none⟩) g.prods.length g.prods.length, .pointer (some ⟨wr.heap.size, 2, none⟩), .int .i64 (j : Nat), .pointer (some ⟨Bp, j, none⟩), .int .i64 (c2 : Nat), .bool true, .bool true, .pointer (some ⟨Bo, 3, none⟩), .slice va3 fs.length vc3, .slice (some ⟨Bp, 0, none⟩) g.prods.length g.prods.length, .pointer (some ⟨wr.heap.size, 0, none⟩), .int .i64 (i : Nat), .pointer (some ⟨Bp, 0 + i, none⟩), .int .i64 (c1 : Nat), .pointer (some ⟨wr.heap.size, 1, none⟩), .int .i64 fat, .slice (some ⟨Bp, 0, none⟩) g.prods.length g.prods.length, .pointer (some ⟨wr.heap.size, 2, none⟩), .int .i64 (j : Nat), .pointer (some ⟨Bp, 0 + j, none⟩), .int .i64 (c2 : Nat), .agg #[.int .i64 (c1 : Nat), .int .i64 fat, .int .i64 (c2 : Nat)], .slice (some ⟨W4.drew.heap.size, 0, none⟩) 1 1, .slice (some ⟨g5, 0, none⟩) (fs.length + 1) cap5, .pointer (some ⟨Bo, 3, none⟩), u233, u234, u235, u236, u237, u238, u239, u240, u241, u242, u243, u244, u245, u246, u247, u248, u249, u250, u251, u252, u253, u254, u255, u256, u257, u258, u259, u260, u261, u262, u263, u264, u265, u266, u267, u268, u269, u270, u271]
            rfl (by kernel_rfl) (by kernel_rfl) (by kernel_rfl) (by kernel_rfl) (by kernel_rfl) (by kernel_rfl) rfl ?_ ?_ _ rfl ?_
          · exact ⟨⟨_, rfl, Turns.val (.slice (some ⟨W4.drew.heap.size, 0, none⟩) 1 1) (by kernel_rfl) (by kernel_rfl) rfl (by kernel_rfl) (bs24 rfl (by kernel_rfl))⟩, ⟨⟨_, rfl, Turns.val (.slice (some ⟨g5, 0, none⟩) (fs.length + 1) cap5) (by kernel_rfl) (by kernel_rfl) rfl (by kernel_rfl) (ap_of rfl (by kernel_rfl) (by kernel_rfl) hrun5)⟩, ⟨⟨_, rfl, Turns.skip (by kernel_rfl) (by kernel_rfl) rfl (st24 rfl (by kernel_rfl) (by kernel_rfl) c5 f5 l5)⟩, trivial⟩⟩⟩
          · refine EachS.one (Each.val 215 (.pointer (some ⟨Bo, 3, none⟩)) (by kernel_rfl) (by kernel_rfl) (by kernel_rfl) (fun _ => rfl) (fun W hS _ => fa27_3 rfl (by kernel_rfl)) trivial) ?_
            refine EachS.one (Each.val 216 (.slice va3 fs.length vc3) (by kernel_rfl) (by kernel_rfl) (by kernel_rfl) (fun _ => rfl) (fun W hS _ => ld24 rfl (by kernel_rfl) ((HL.out W hS).1)) trivial) ?_
            refine EachS.one (Each.val 217 (.slice (some ⟨Bp, 0, none⟩) g.prods.length g.prods.length) (by kernel_rfl) (by kernel_rfl) (by kernel_rfl) (fun _ => rfl) (fun _ _ _ => by kernel_rfl) trivial) ?_
            refine EachS.one (Each.val 218 (.pointer (some ⟨wr.heap.size, 0, none⟩)) (by kernel_rfl) (by kernel_rfl) (by kernel_rfl) (fun _ => rfl) (fun W hS _ => fa78_0 rfl (by kernel_rfl)) trivial) ?_
            refine EachS.one (Each.val 219 (.int .i64 (i : Nat)) (by kernel_rfl) (by kernel_rfl) (by kernel_rfl) (fun _ => rfl) (fun W hS _ => ld3 rfl (by kernel_rfl) ((HL.out W hS).2.1)) trivial) ?_
            refine EachS.one (Each.val 220 (.pointer (some ⟨Bp, 0 + i, none⟩)) (by kernel_rfl) (by kernel_rfl) (by kernel_rfl) (fun _ => rfl) (fun W hS _ => ix40 (c := g.prods.length) rfl (by kernel_rfl) (by kernel_rfl) hin rfl) trivial) ?_
            refine EachS.one (Each.val 221 (.int .i64 (c1 : Nat)) (by kernel_rfl) (by kernel_rfl) (by kernel_rfl) (fun _ => rfl) (fun W hS _ => ld3 rfl (by kernel_rfl) ((HL.out W hS).2.2.2.2.1)) trivial) ?_
            refine EachS.one (Each.val 222 (.pointer (some ⟨wr.heap.size, 1, none⟩)) (by kernel_rfl) (by kernel_rfl) (by kernel_rfl) (fun _ => rfl) (fun W hS _ => fa78_1 rfl (by kernel_rfl)) trivial) ?_
            refine EachS.one (Each.val 223 (.int .i64 fat) (by kernel_rfl) (by kernel_rfl) (by kernel_rfl) (fun _ => rfl) (fun W hS _ => ld3 rfl (by kernel_rfl) ((HL.out W hS).2.2.1)) trivial) ?_
            refine EachS.one (Each.val 224 (.slice (some ⟨Bp, 0, none⟩) g.prods.length g.prods.length) (by kernel_rfl) (by kernel_rfl) (by kernel_rfl) (fun _ => rfl) (fun _ _ _ => by kernel_rfl) trivial) ?_
            refine EachS.one (Each.val 225 (.pointer (some ⟨wr.heap.size, 2, none⟩)) (by kernel_rfl) (by kernel_rfl) (by kernel_rfl) (fun _ => rfl) (fun W hS _ => fa78_2 rfl (by kernel_rfl)) trivial) ?_
            refine EachS.one (Each.val 226 (.int .i64 (j : Nat)) (by kernel_rfl) (by kernel_rfl) (by kernel_rfl) (fun _ => rfl) (fun W hS _ => ld3 rfl (by kernel_rfl) ((HL.out W hS).2.2.2.1)) trivial) ?_
            refine EachS.one (Each.val 227 (.pointer (some ⟨Bp, 0 + j, none⟩)) (by kernel_rfl) (by kernel_rfl) (by kernel_rfl) (fun _ => rfl) (fun W hS _ => ix40 (c := g.prods.length) rfl (by kernel_rfl) (by kernel_rfl) hjn rfl) trivial) ?_
            refine EachS.one (Each.val 228 (.int .i64 (c2 : Nat)) (by kernel_rfl) (by kernel_rfl) (by kernel_rfl) (fun _ => rfl) (fun W hS _ => ld3 rfl (by kernel_rfl) ((HL.out W hS).2.2.2.2.2)) trivial) ?_
            refine EachS.one (Each.val 229 (.agg #[.int .i64 (c1 : Nat), .int .i64 fat, .int .i64 (c2 : Nat)]) (by kernel_rfl) (by kernel_rfl) (by kernel_rfl) (fun _ => rfl) (fun W hS _ => bd78 rfl (by kernel_rfl) (by kernel_rfl) (by kernel_rfl)) trivial) ?_
            refine EachS.skip (by decide) ?_
            refine EachS.skip (by decide) ?_
            refine EachS.one (Each.val 232 (.pointer (some ⟨Bo, 3, none⟩)) (by kernel_rfl) (by kernel_rfl) (by kernel_rfl) (fun _ => rfl) (fun W hS _ => fa27_3 rfl (by kernel_rfl)) trivial) ?_
            refine EachS.skip (by decide) ?_
            exact trivial
          · go_wp2
            go_roundw
            case rel => exact ⟨k + 1, by go_num, by omega, _, _, HKN, HN⟩
            case measure => simp [intOf]; omega
    · obtain rfl : k = g.forbid.length := by omega
      have hfs' := hfs.out
      rw [List.take_length] at hfs'
      have HFS := Lib.hid hfs'
      have HTS := Lib.hid hts'
      clear hts hts' hfs hfs' hlt hk gg
      go_wp2_with fail
      go_loopw [18] (fun i wr => ∃ k : Nat, i = .int .i64 k ∧ k ≤ g.follow.length ∧ ∃ v4 ws, Hid (TS g L R w Bm Bi Bs Bp Bo g.sorts.length g.prods.length st (.slice va (keepL (sP R) g.sorts).length vc) (.slice va1 ps.length vc1) (.slice va3 fs.length vc3) v4 (keepL (sP R) g.sorts) ps fs ws wr)
          ∧ Hid (ws = (g.follow.take k).filterMap (movW (sP R))))
        (fun i _ => g.follow.length - (intOf i).toNat)
      case atStart => exact ⟨0, rfl, Nat.zero_le _, _, [], HTS, Lib.hid rfl⟩
      case round =>
        clear HTS c0 c1 c2 c3 c4 l0
        obtain ⟨k, rfl, hk, v4, ws, hts, hws⟩ := hrel
        have hts' := hts.out
        obtain ⟨va4, vc4, rfl, _, _⟩ := own_slice hts'.r4
        have gg := hts'.bg
        rw [HGr.out] at gg
        obtain ⟨c0, c1, c2, c3, c4⟩ := cells5 gg
        have l0 := gg.lt
        by_cases hlt : k < g.follow.length
        · obtain ⟨f, hfk⟩ : ∃ f, g.follow[k]? = some f := ⟨_, List.getElem?_eq_getElem hlt⟩
          have hmem := List.mem_of_getElem? hfk
          obtain ⟨b, off, hwa, hbw, hc, _⟩ := HG.out.follow k f hfk
          rw [← HWa.out] at hwa
          subst hwa
          obtain ⟨i, hi, hin⟩ := HM.out.fol f hmem
          obtain ⟨e0, e1, e2, e3, e4⟩ := Fol_at (hc.below hts'.b hbw)
          have HCf := Lib.hid hc
          have n1 : (k : Int) < (g.follow.length : Int) := by omega
          have ti : (i : Int) < (g.sorts.length : Int) := by omega
          have lb : b < wr.heap.size := Nat.lt_of_lt_of_le hbw hts'.b.size
          have HTk := Lib.hid (take_snoc g.follow k f hfk)
          obtain ⟨fp, fnot⟩ := f
          dsimp only at *
          subst hi
          have HMf : Hid (movW (sP R) ⟨(i : Int), fnot⟩ = if plI (sP R) i ≠ -1 then some ⟨plI (sP R) i, fnot⟩ else none) := Lib.hid (by unfold movW; simp only [Int.toNat_natCast])
          have lws : ws.length ≤ k := by rw [hws.out]; exact Nat.le_trans (List.length_filterMap_le _ _) (by rw [List.length_take]; omega)
          obtain ⟨m, hm⟩ : ∃ m, m = movW (sP R) ⟨(i : Int), fnot⟩ := ⟨_, rfl⟩
          rw [← hm] at HMf
          have HFW : Hid ((g.follow.take (k + 1)).filterMap (movW (sP R)) = ws ++ m.toList) := Lib.hid (by rw [HTk.out, fm_snoc, ← hws.out, hm])
          have p1 := hts'.bs.cell hin
          have lbs := hts'.bs.lt
          have HPL1 : Hid (sP R i = false → plI (sP R) i = -1) := Lib.hid (plI_gone _ _)
          have HPL1' : Hid (sP R i = true → ∃ c : Nat, plI (sP R) i = c) := Lib.hid (plI_neq _ _)
          obtain ⟨u1, hu1⟩ : ∃ u, u = plI (sP R) i := ⟨_, rfl⟩
          have HU1 := Lib.hid hu1.symm
          rw [← hu1] at p1 HMf HPL1 HPL1'
          have H4 := Lib.hid hts'
          clear hfk hc hm HTk hu1 hmem hts' hws gg
          cases h1 : sP R i with
          | false =>
            obtain rfl := HPL1.out h1
            have HN : Hid (ws = (g.follow.take (k + 1)).filterMap (movW (sP R))) := Lib.hid (by
              rw [HFW.out, HMf.out, if_neg (by simp)]; simp)
            go_wp2
            go_roundw
            case rel => exact ⟨k + 1, by go_num, by omega, _, ws, hts, HN⟩
            case measure => simp [intOf]; omega
          | true =>
            obtain ⟨c1', rfl⟩ := HPL1'.out h1
            have z1 : (0 : Int) ≤ (c1' : Int) := by omega
            have z1' : decide ((0 : Int) ≤ (c1' : Int)) = true := by simp
            clear HPL1 HPL1' h1
            have HN : Hid (ws ++ [⟨(c1' : Int), fnot⟩] = (g.follow.take (k + 1)).filterMap (movW (sP R))) := Lib.hid (by
              rw [HFW.out, HMf.out, if_pos (by omega)]; rfl)
            have lo := H4.out.bo.lt
            have lN := H4.out.lt
            have HTd := Lib.hid (H4.out.below (Below.refl _ wr).drew)
            have HCN := Lib.hid (cells_new wr.drew #[.int .i64 (c1' : Int), .int .u64 (wdI fnot 0), .int .u64 (wdI fnot 1), .int .u64 (wdI fnot 2), .int .u64 (wdI fnot 3)] 80)
            have hsz3 : wr.drew.heap.size = wr.heap.size := rfl
            go_upto_region 45 with fail
            obtain ⟨g5, cap5, w5, hrun5, hown5, hgrow5, hat5, hlt5⟩ := run_append_lies (P := Try.prog) (wr.drew.alloc (.cells #[.int .i64 (c1' : Int), .int .u64 (wdI fnot 0), .int .u64 (wdI fnot 1), .int .u64 (wdI fnot 2), .int .u64 (wdI fnot 3)] 80)) 25 25 (Bo + 1) 80 i80 (.agg #[.int .i64 0, .int .u64 0, .int .u64 0, .int .u64 0, .int .u64 0]) 5 40 Try.underlying25 ti80 tz80 ts80 tb80 rfl (by decide) (.slice va4 ws.length vc4) ws.length (cellsL folC ws) (HTd.out.r4.alloc _) ⟨wr.heap.size, 0, none⟩ 1 1 [.int .i64 (c1' : Int), .int .u64 (wdI fnot 0), .int .u64 (wdI fnot 1), .int .u64 (wdI fnot 2), .int .u64 (wdI fnot 3)] rfl HCN.out (by simp [Value.oneCell']) (by omega) (by unfold maxLen; omega) (by omega) (by simp; omega) _ rfl
            have hka := HTd.out.below ((Below.refl wr.drew.heap.size wr.drew).alloc (Nat.le_refl _) (.cells #[.int .i64 (c1' : Int), .int .u64 (wdI fnot 0), .int .u64 (wdI fnot 1), .int .u64 (wdI fnot 2), .int .u64 (wdI fnot 3)] 80))
            have hbo5 := hka.boxo hka.r4 hgrow5
            have f5 := hbo5.frozen 4
            have l5 := hbo5.lt
            have c5 := hbo5.cell 4
            simp only [List.getElem?_toArray, List.getElem?_cons_zero, List.getElem?_cons_succ] at c5
            have HL : Hid (∀ W, (∃ k, k < 3 ∧ W = (four wr.drew (wr.drew.alloc (.cells #[.int .i64 (c1' : Int), .int .u64 (wdI fnot 0), .int .u64 (wdI fnot 1), .int .u64 (wdI fnot 2), .int .u64 (wdI fnot 3)] 80)) w5 (w5.setCell ⟨Bo, 4, none⟩ (.slice (some ⟨g5, 0, none⟩) (ws.length + 1) cap5))) k) →
                W.cell? ⟨Bo, 4, none⟩ = some (.slice va4 ws.length vc4) ∧ W.cell? ⟨w.heap.size, 4, none⟩ = some (.slice (some ⟨b, off, none⟩) g.follow.length g.wc) ∧ W.cell? ⟨b, off + k * 5, none⟩ = some (.int .i64 (i : Nat)) ∧ W.cell? ⟨Bs, 0 + i, none⟩ = some (.int .i64 (c1' : Nat))
                  ∧ W.cell? ⟨b, off + k * 5 + 1, none⟩ = some (.int .u64 (wdI fnot 0)) ∧ W.cell? ⟨b, off + k * 5 + 1 + 1, none⟩ = some (.int .u64 (wdI fnot 1)) ∧ W.cell? ⟨b, off + k * 5 + 1 + 2, none⟩ = some (.int .u64 (wdI fnot 2)) ∧ W.cell? ⟨b, off + k * 5 + 1 + 3, none⟩ = some (.int .u64 (wdI fnot 3))) := Lib.hid (by
              have hnum := hka.num
              have hp3 : PLn w5 Bs g.sorts.length g.sorts.length (sP R) := hka.bs.to (hgrow5.block Bs hka.bs.lt (low_ne hka.r4 (by omega)))
              have hg3 : Blk w5 w.heap.size 27 (gramC g) := hka.bg.kept hgrow5 (low_ne hka.r4 (by omega))
              have hb5 : Below w.heap.size w w5 := hka.b.grown hgrow5 hka.b.size fun q ej => by
                rcases hka.r4.2 with ⟨e5, _⟩ | ⟨q', cap, cur, e5, hq, _⟩
                · rw [e5] at ej; cases ej
                · rw [e5] at ej
                  have : q' = q := by simpa [Value.ownBlock] using ej
                  omega
              rw [Nat.zero_add]
              intro W hW
              have fin : ∀ V, Below w.heap.size w V → Blk V Bo 27 #[.slice va (keepL (sP R) g.sorts).length vc, .slice va1 ps.length vc1, .int .i64 st, .slice va3 fs.length vc3, .slice va4 ws.length vc4] → Blk V w.heap.size 27 (gramC g) → PLn V Bs g.sorts.length g.sorts.length (sP R) →
                  V.cell? ⟨Bo, 4, none⟩ = some (.slice va4 ws.length vc4) ∧ V.cell? ⟨w.heap.size, 4, none⟩ = some (.slice (some ⟨b, off, none⟩) g.follow.length g.wc) ∧ V.cell? ⟨b, off + k * 5, none⟩ = some (.int .i64 (i : Nat)) ∧ V.cell? ⟨Bs, i, none⟩ = some (.int .i64 (c1' : Nat))
                  ∧ V.cell? ⟨b, off + k * 5 + 1, none⟩ = some (.int .u64 (wdI fnot 0)) ∧ V.cell? ⟨b, off + k * 5 + 1 + 1, none⟩ = some (.int .u64 (wdI fnot 1)) ∧ V.cell? ⟨b, off + k * 5 + 1 + 2, none⟩ = some (.int .u64 (wdI fnot 2)) ∧ V.cell? ⟨b, off + k * 5 + 1 + 3, none⟩ = some (.int .u64 (wdI fnot 3)) := fun V k1 k2 k3 k4 => by
                obtain ⟨y0, y1, y2, y3, y4⟩ := Fol_at (HCf.out.below k1 hbw)
                rw [HGr.out] at k3
                exact ⟨k2.cell 4, k3.cell 4, y0, (k4.cell hin).trans (by rw [HU1.out]), y1, y2, y3, y4⟩
              rcases four_lt hW with rfl | rfl | rfl
              · exact fin _ HTd.out.b HTd.out.bo HTd.out.bg HTd.out.bs
              · exact fin _ hka.b hka.bo hka.bg hka.bs
              · exact fin _ hb5 hbo5 hg3 hp3)
            have HKN := Lib.hid (hka.push4 ⟨(c1' : Int), fnot⟩ _ hgrow5 hown5)
            clear hka hbo5 hown5 hgrow5 z1 z1'
            refine wp_region_chain [18, 19, 21] 21 (four wr.drew (wr.drew.alloc (.cells #[.int .i64 (c1' : Int), .int .u64 (wdI fnot 0), .int .u64 (wdI fnot 1), .int .u64 (wdI fnot 2), .int .u64 (wdI fnot 3)] 80)) w5 (w5.setCell ⟨Bo, 4, none⟩ (.slice (some ⟨g5, 0, none⟩) (ws.length + 1) cap5)))
              [.pointer (some ⟨Bo, 4, none⟩), .slice va4 ws.length vc4, .slice (some ⟨Bs, 0, none⟩) g.sorts.length g.sorts.length, .pointer (some ⟨w.heap.size, 4, none⟩), .slice (some ⟨b, off, none⟩) g.follow.length g.wc, .int .i64 (k : Nat), .pointer (some ⟨b, off + k * 5, none⟩), .pointer (some ⟨b, off + k * 5, none⟩), .int .i64 (i : Nat), .pointer (some ⟨Bs, 0 + i, none⟩), .int .i64 (c1' : Nat), .pointer (some ⟨w.heap.size, 4, none⟩), .slice (some ⟨b, off, none⟩) g.follow.length g.wc, .int .i64 (k : Nat), .pointer (some ⟨b, off + k * 5, none⟩), .pointer (some ⟨b, off + k * 5 + 1, none⟩), .agg #[.int .u64 (wdI fnot 0), .int .u64 (wdI fnot 1), .int .u64 (wdI fnot 2), .int .u64 (wdI fnot 3)], .agg #[.int .i64 (c1' : Nat), .int .u64 (wdI fnot 0), .int .u64 (wdI fnot 1), .int .u64 (wdI fnot 2), .int .u64 (wdI fnot 3)], .slice (some ⟨wr.drew.heap.size, 0, none⟩) 1 1, .slice (some ⟨g5, 0, none⟩) (ws.length + 1) cap5, .pointer (some ⟨Bo, 4, none⟩), undef]
              #[.agg #[.slice sa g.sorts.length g.sc, .slice pa g.prods.length g.pc, .int .i64 (stn : Nat), .slice fa g.forbid.length g.fc, .slice (some ⟨b, off, none⟩) g.follow.length g.wc], .pointer (some ⟨w.heap.size, 0, none⟩), .pointer (some ⟨w.heap.size + 1, 0, none⟩), .bool false, .slice (some ⟨Bm, 0, none⟩) g.sorts.length g.sorts.length, .slice (some ⟨Bi, 0, none⟩) g.sorts.length g.sorts.length, .slice (some ⟨Bs, 0, none⟩) g.sorts.length g.sorts.length, .slice (some ⟨Bp, 0, none⟩) g.prods.length g.prods.length, .pointer (some ⟨Bo, 0, none⟩), .int .i64 (g.sorts.length : Nat), .int .i64 (g.prods.length : Nat), u11, u12, u13, u14, u15, .int .i64 (g.forbid.length : Nat), u17, .int .i64 (k : Nat), u19, u20, u21, u22, u23, u24, u25, u26, u27, u28, u29, u30, u31, u32, u33, u34, u35, u36, u37, u38, .int .i64 (g.sorts.length : Nat), .pointer (some ⟨w.heap.size, 0, none⟩), .slice sa g.sorts.length g.sc, .int .i64 (g.sorts.length : Nat), .bool false, u44, u45, u46, u47, u48, u49, u50, u51, u52, u53, u54, u55, u56, u57, u58, u59, u60, u61, u62, u63, u64, u65, u66, u67, u68, u69, u70, u71, u72, u73, u74, .slice (some ⟨Bs, 0, none⟩) g.sorts.length g.sorts.length, .pointer (some ⟨w.heap.size, 2, none⟩), .int .i64 (stn : Nat), .pointer (some ⟨Bs, stn, none⟩), .int .i64 st, .pointer (some ⟨Bo, 2, none⟩), .int .i64 (g.prods.length : Nat), .pointer (some ⟨w.heap.size, 1, none⟩), .slice pa g.prods.length g.pc, .int .i64 (g.prods.length : Nat), .bool false, u86, u87, u88, u89, u90, u91, u92, u93, u94, u95, u96, u97, u98, u99, u100, u101, u102, u103, u104, u105, u106, u107, u108, u109, u110, u111, u112, u113, u114, u115, u116, u117, u118, u119, u120, u121, u122, u123, u124, u125, u126, u127, u128, u129, u130, u131, u132, u133, u134, u135, u136, u137, u138, u139, u140, u141, u142, u143, u144, u145, u146, u147, u148, u149, u150, u151, u152, u153, u154, u155, u156, u157, u158, u159, u160, u161, u162, u163, u164, u165, u166, u167, u168, u169, u170, u171, u172, u173, u174, u175, u176, u177, u178, u179, u180, u181, u182, u183, u184, u185, u186, u187, u188, .int .i64 (g.forbid.length : Nat), .pointer (some ⟨w.heap.size, 3, none⟩), .slice fa g.forbid.length g.fc, .int .i64 (g.forbid.length : Nat), .bool false, u194, u195, u196, u197, u198, u199, u200, u201, u202, u203, u204, u205, u206, u207, u208, u209, u210, u211, u212, u213, u214, u215, u216, u217, u218, u219, u220, u221, u222, u223, u224, u225, u226, u227, u228, u229, u230, u231, u232, .int .i64 (k : Nat), .pointer (some ⟨w.heap.size, 4, none⟩), .slice (some ⟨b, off, none⟩) g.follow.length g.wc, .int .i64 (g.follow.length : Nat), .bool true, u238, u239, .slice (some ⟨Bs, 0, none⟩) g.sorts.length g.sorts.length, .pointer (some ⟨w.heap.size, 4, none⟩), .slice (some ⟨b, off, none⟩) g.follow.length g.wc, .int .i64 (k : Nat), .pointer (some ⟨b, off + k * 5, none⟩), .pointer (some ⟨b, off + k * 5, none⟩), .int .i64 (i : Nat), .pointer (some ⟨Bs, i, none⟩), .int .i64 (c1' : Nat), .bool true, .pointer (some ⟨Bo, 4, none⟩), .slice va4 ws.length vc4, .slice (some ⟨Bs, 0, none⟩) g.sorts.length g.sorts.length, .pointer (some ⟨w.heap.size, 4, none⟩), .slice (some ⟨b, off, none⟩) g.follow.length g.wc, .int .i64 (k : Nat), .pointer (some ⟨b, off + k * 5, none⟩), .pointer (some ⟨b, off + k * 5, none⟩), .int .i64 (i : Nat), .pointer (some ⟨Bs, 0 + i, none⟩), .int .i64 (c1' : Nat), .pointer (some ⟨w.heap.size, 4, none⟩), .slice (some ⟨b, off, none⟩) g.follow.length g.wc, .int .i64 (k : Nat), .pointer (some ⟨b, off + k * 5, none⟩), .pointer (some ⟨b, off + k * 5 + 1, none⟩), .agg #[.int .u64 (wdI fnot 0), .int .u64 (wdI fnot 1), .int .u64 (wdI fnot 2), .int .u64 (wdI fnot 3)], .agg #[.int .i64 (c1' : Nat), .int .u64 (wdI fnot 0), .int .u64 (wdI fnot 1), .int .u64 (wdI fnot 2), .int .u64 (wdI fnot 3)], .slice (some ⟨wr.drew.heap.size, 0, none⟩) 1 1, .slice (some ⟨g5, 0, none⟩) (ws.length + 1) cap5, .pointer (some ⟨Bo, 4, none⟩), u271]
              rfl (by kernel_rfl) (by kernel_rfl) (by kernel_rfl) (by kernel_rfl) (by kernel_rfl) (by kernel_rfl) rfl ?_ ?_ _ rfl ?_
            · exact ⟨⟨_, rfl, Turns.val (.slice (some ⟨wr.drew.heap.size, 0, none⟩) 1 1) (by kernel_rfl) (by kernel_rfl) rfl (by kernel_rfl) (bs25 rfl (by kernel_rfl))⟩, ⟨⟨_, rfl, Turns.val (.slice (some ⟨g5, 0, none⟩) (ws.length + 1) cap5) (by kernel_rfl) (by kernel_rfl) rfl (by kernel_rfl) (ap_of rfl (by kernel_rfl) (by kernel_rfl) hrun5)⟩, ⟨⟨_, rfl, Turns.skip (by kernel_rfl) (by kernel_rfl) rfl (st25 rfl (by kernel_rfl) (by kernel_rfl) c5 f5 l5)⟩, trivial⟩⟩⟩
            · refine EachS.one (Each.val 250 (.pointer (some ⟨Bo, 4, none⟩)) (by kernel_rfl) (by kernel_rfl) (by kernel_rfl) (fun _ => rfl) (fun W hS _ => fa27_4 rfl (by kernel_rfl)) trivial) ?_
              refine EachS.one (Each.val 251 (.slice va4 ws.length vc4) (by kernel_rfl) (by kernel_rfl) (by kernel_rfl) (fun _ => rfl) (fun W hS _ => ld25 rfl (by kernel_rfl) ((HL.out W hS).1)) trivial) ?_
              refine EachS.one (Each.val 252 (.slice (some ⟨Bs, 0, none⟩) g.sorts.length g.sorts.length) (by kernel_rfl) (by kernel_rfl) (by kernel_rfl) (fun _ => rfl) (fun _ _ _ => by kernel_rfl) trivial) ?_
              refine EachS.one (Each.val 253 (.pointer (some ⟨w.heap.size, 4, none⟩)) (by kernel_rfl) (by kernel_rfl) (by kernel_rfl) (fun _ => rfl) (fun W hS _ => fa27_4 rfl (by kernel_rfl)) trivial) ?_
              refine EachS.one (Each.val 254 (.slice (some ⟨b, off, none⟩) g.follow.length g.wc) (by kernel_rfl) (by kernel_rfl) (by kernel_rfl) (fun _ => rfl) (fun W hS _ => ld25 rfl (by kernel_rfl) ((HL.out W hS).2.1)) trivial) ?_
              refine EachS.one (Each.val 255 (.int .i64 (k : Nat)) (by kernel_rfl) (by kernel_rfl) (by kernel_rfl) (fun _ => rfl) (fun _ _ _ => by kernel_rfl) trivial) ?_
              refine EachS.one (Each.val 256 (.pointer (some ⟨b, off + k * 5, none⟩)) (by kernel_rfl) (by kernel_rfl) (by kernel_rfl) (fun _ => rfl) (fun W hS _ => ix25 (c := g.wc) rfl (by kernel_rfl) (by kernel_rfl) hlt rfl) trivial) ?_
              refine EachS.one (Each.val 257 (.pointer (some ⟨b, off + k * 5, none⟩)) (by kernel_rfl) (by kernel_rfl) (by kernel_rfl) (fun _ => rfl) (fun W hS _ => fa80_0 rfl (by kernel_rfl)) trivial) ?_
              refine EachS.one (Each.val 258 (.int .i64 (i : Nat)) (by kernel_rfl) (by kernel_rfl) (by kernel_rfl) (fun _ => rfl) (fun W hS _ => ld3 rfl (by kernel_rfl) ((HL.out W hS).2.2.1)) trivial) ?_
              refine EachS.one (Each.val 259 (.pointer (some ⟨Bs, 0 + i, none⟩)) (by kernel_rfl) (by kernel_rfl) (by kernel_rfl) (fun _ => rfl) (fun W hS _ => ix40 (c := g.sorts.length) rfl (by kernel_rfl) (by kernel_rfl) hin rfl) trivial) ?_
              refine EachS.one (Each.val 260 (.int .i64 (c1' : Nat)) (by kernel_rfl) (by kernel_rfl) (by kernel_rfl) (fun _ => rfl) (fun W hS _ => ld3 rfl (by kernel_rfl) ((HL.out W hS).2.2.2.1)) trivial) ?_
              refine EachS.one (Each.val 261 (.pointer (some ⟨w.heap.size, 4, none⟩)) (by kernel_rfl) (by kernel_rfl) (by kernel_rfl) (fun _ => rfl) (fun W hS _ => fa27_4 rfl (by kernel_rfl)) trivial) ?_
              refine EachS.one (Each.val 262 (.slice (some ⟨b, off, none⟩) g.follow.length g.wc) (by kernel_rfl) (by kernel_rfl) (by kernel_rfl) (fun _ => rfl) (fun W hS _ => ld25 rfl (by kernel_rfl) ((HL.out W hS).2.1)) trivial) ?_
              refine EachS.one (Each.val 263 (.int .i64 (k : Nat)) (by kernel_rfl) (by kernel_rfl) (by kernel_rfl) (fun _ => rfl) (fun _ _ _ => by kernel_rfl) trivial) ?_
              refine EachS.one (Each.val 264 (.pointer (some ⟨b, off + k * 5, none⟩)) (by kernel_rfl) (by kernel_rfl) (by kernel_rfl) (fun _ => rfl) (fun W hS _ => ix25 (c := g.wc) rfl (by kernel_rfl) (by kernel_rfl) hlt rfl) trivial) ?_
              refine EachS.one (Each.val 265 (.pointer (some ⟨b, off + k * 5 + 1, none⟩)) (by kernel_rfl) (by kernel_rfl) (by kernel_rfl) (fun _ => rfl) (fun W hS _ => fa80_1 rfl (by kernel_rfl)) trivial) ?_
              refine EachS.one (Each.val 266 (.agg #[.int .u64 (wdI fnot 0), .int .u64 (wdI fnot 1), .int .u64 (wdI fnot 2), .int .u64 (wdI fnot 3)]) (by kernel_rfl) (by kernel_rfl) (by kernel_rfl) (fun _ => rfl) (fun W hS _ => ld66w rfl (by kernel_rfl) ((HL.out W hS).2.2.2.2)) trivial) ?_
              refine EachS.one (Each.val 267 (.agg #[.int .i64 (c1' : Nat), .int .u64 (wdI fnot 0), .int .u64 (wdI fnot 1), .int .u64 (wdI fnot 2), .int .u64 (wdI fnot 3)]) (by kernel_rfl) (by kernel_rfl) (by kernel_rfl) (fun _ => rfl) (fun W hS _ => bd80 rfl (by kernel_rfl) (by kernel_rfl)) trivial) ?_
              refine EachS.skip (by decide) ?_
              refine EachS.skip (by decide) ?_
              refine EachS.one (Each.val 270 (.pointer (some ⟨Bo, 4, none⟩)) (by kernel_rfl) (by kernel_rfl) (by kernel_rfl) (fun _ => rfl) (fun W hS _ => fa27_4 rfl (by kernel_rfl)) trivial) ?_
              refine EachS.skip (by decide) ?_
              exact trivial
            · go_wp2
              go_roundw
              case rel => exact ⟨k + 1, by go_num, by omega, _, _, HKN, HN⟩
              case measure => simp [intOf]; omega
        · obtain rfl : k = g.follow.length := by omega
          have hws' := hws.out
          rw [List.take_length] at hws'
          have HWS := Lib.hid hws'
          obtain ⟨WF, hWF⟩ : ∃ W, W = put5 wr (w.heap.size + 1) (.slice va (keepL (sP R) g.sorts).length vc) (.slice va1 ps.length vc1) (.int .i64 st) (.slice va3 fs.length vc3) (.slice va4 ws.length vc4) := ⟨_, rfl⟩
          obtain ⟨HGF, HNF⟩ := hts'.fin hWF
          have HGF := Lib.hid HGF
          have HNF := Lib.hid HNF
          obtain ⟨f0, f1, f2, f3, f4⟩ := frz5 hts'.br
          obtain ⟨b0, b1, b2, b3, b4⟩ := cells5 hts'.br
          have lbr := hts'.br.lt
          obtain ⟨d0, d1, d2, d3, d4⟩ := cells5 hts'.bo
          have lo := hts'.bo.lt
          obtain ⟨q0, q1, q2, q3, q4⟩ := cells5 (hts'.br.put5 (.slice va (keepL (sP R) g.sorts).length vc) (.slice va1 ps.length vc1) (.int .i64 st) (.slice va3 fs.length vc3) (.slice va4 ws.length vc4))
          have HBF := Lib.hid (below_put5 hts'.b (Nat.le_succ w.heap.size) (.slice va (keepL (sP R) g.sorts).length vc) (.slice va1 ps.length vc1) (.int .i64 st) (.slice va3 fs.length vc3) (.slice va4 ws.length vc4))
          have hnum := hts'.num
          have hne : ¬ Bo = w.heap.size + 1 := by omega
          rw [← hWF] at q0 q1 q2 q3 q4 HBF
          have HWF := Lib.hid hWF
          clear hWF hts hts' hws hws' gg hlt hk hnum
          go_wp2
          unfold put5 at HWF
          rw [← HWF.out]
          refine bodyPost_ret (v := .tuple #[.agg #[.slice va (keepL (sP R) g.sorts).length vc, .slice va1 ps.length vc1, .int .i64 st, .slice va3 fs.length vc3, .slice va4 ws.length vc4], .bool true]) (by simp [results, Try.results26, go_sem, q0, q1, q2, q3, q4]) rfl
            ⟨HF'.out R ⟨va, vc, keepL (sP R) g.sorts, va1, vc1, ps, st, va3, vc3, fs, va4, vc4, ws⟩ _ HRL.out ⟨rfl, HPlI.out, HPS.out, HFS.out, HWS.out⟩ HGF.out HNF.out, HBF.out⟩
end Go.Proofs.Ytiihdbchchnncaa
end
