import Derived.BigQuiet
import Derived.Deep.QuietTactic
import Derived.Deep.CutBlock
import Derived.StillTailTactics
import Derived.Test.YtodnlcbnbkkanaaGreatDoorS16
section
namespace Go.Proofs.YtodnlcbnbkkanaaGreatDoor
open Go Go.RowKit

set_option maxRecDepth 100000 in
set_option maxHeartbeats 16000000 in
theorem rfollow_rest {Q0 : Exit → Act → World → Prop} {K : Act → World → Prop} {x0 x1 x2 x3 x4 x5 x6 x11 x13 x17 x18 x19 x20 x21 x22 x23 x24 x25 x26 x27 x28 x29 x30 x31 x32 x33 x34 x35 x36 x37 x38 x39 x40 x41 x42 x43 x44 x45 x46 x47 x48 x49 x50 x51 x52 x53 x54 x55 x56 x57 x58 x59 x60 x61 x62 x63 x64 x65 x66 x67 x68 x69 x70 x71 x72 x73 x74 x75 x76 x77 x78 x79 x80 x81 x82 x83 x84 x85 x86 x87 x88 x89 x90 x91 x92 x93 x94 x95 x96 x97 x98 x99 x100 x101 x102 x103 x104 x105 x106 x107 x108 x109 x110 x111 x112 x113 x114 x115 x116 x117 x118 x119 x120 x121 x122 x123 x124 x125 x126 x127 x128 x129 x130 x131 x132 x133 x134 x135 x136 x137 x138 x139 x140 x141 x142 x143 x144 x145 x146 x147 x148 x149 x150 x151 x152 x153 x154 x155 x156 x157 x158 x159 x160 x161 x162 x163 x164 x165 x166 x167 x168 x169 x170 x171 x172 x173 x174 x175 x176 x177 x178 x179 x180 x181 x182 x183 x184 x185 x186 x187 x188 x189 x190 x191 x192 x193 x194 x195 x196 x197 x198 x199 x200 x201 : Value} {g : GramM} {w w3r wc : World} {Bs Bn Bf Bi Bo Be Bp Bq n xn k kk : Nat} {S : List Int} {M : List Bool} {F : List BS} {BB : List BackM} {xra : Option Addr} {xrc : Nat} {xco : ByteArray} {xro : Int} {xpr xav : Bool} {xfr : Int} {q u2 : BS} {z c e2' : Bool} {bn b0 : BackM} {R : Bool → List BackM → Prop}
  (hkn : k < n) (hkk : kk < n) (HLn : Hid (BB.length = n)) (hn1 : n ≤ 1000)
  (HF3 : Hid (LBB g w Bs Bn Bf Bi Bo Be S M F BB w3r)) (HP3 : Hid (Blk w3r Bp 65 #[.int .i64 (k : Int), .slice xra xn xrc, .string xco, .int .i64 xro, .bool xpr, .bool xav, .int .i64 xfr])) (hw3 : w3r.heap.size ≤ Bq) (hqp : Bp < Bq) (hpo : Bp ≠ Bo) (hpe : Bp ≠ Be) (hpi : Bp ≠ Bi)
  (HBn : Hid (BB[kk]? = some bn)) (HB0 : Hid (BB[k]? = some b0 ∧ b0.there = true)) (HU2 : Hid (u2 = if z then q ||| b0.bytes else q)) (HE2 : Hid (e2' = (bn.fin || (z && b0.fin))))
  (HPass : Hid ((⟨true, u2, e2'⟩ : BackM) = bn → R c BB)) (HMore : Hid (¬ (⟨true, u2, e2'⟩ : BackM) = bn → R true (BB.set kk ⟨true, u2, e2'⟩)))
  (HC : Hid (Blk wc Bq 47 (cset q) ∧ Below Bq w3r wc))
  (HK : Hid (∀ (a' : Act) (w' : World), (∃ (c' : Bool) (BB' : List BackM) (y16 y146 y147 y148 y149 y150 y151 y152 y153 y154 y155 y156 y157 y158 y159 y160 y161 y162 y163 y164 y165 y166 y167 y168 y169 y170 y171 y172 y173 y174 y175 y176 y177 y178 y179 y180 y181 y182 y183 y184 y185 y186 y187 y188 y189 y190 y191 y192 y193 y194 y195 y196 y197 y198 y199 : Value), R c' BB' ∧ Hid (LBB g w Bs Bn Bf Bi Bo Be S M F BB' w' ∧ Blk w' Bp 65 #[.int .i64 (k : Int), .slice xra xn xrc, .string xco, .int .i64 xro, .bool xpr, .bool xav, .int .i64 xfr]) ∧ a' = ⟨#[x0, x1, x2, x3, x4, x5, x6, .slice (some ⟨Bi, 0, none⟩) n n, .slice (some ⟨Bo, 0, none⟩) n n, .slice (some ⟨Be, 0, none⟩) n n, (.bool c'), x11, .pointer (some ⟨Bp, 0, none⟩), x13, .int .i64 (kk : Int), .pointer (some ⟨Bq, 0, none⟩), y16, x17, x18, x19, x20, x21, x22, x23, x24, x25, x26, x27, x28, x29, x30, x31, x32, x33, x34, x35, x36, x37, x38, x39, x40, x41, x42, x43, x44, x45, x46, x47, x48, x49, x50, x51, x52, x53, x54, x55, x56, x57, x58, x59, x60, x61, x62, x63, x64, x65, x66, x67, x68, x69, x70, x71, x72, x73, x74, x75, x76, x77, x78, x79, x80, x81, x82, x83, x84, x85, x86, x87, x88, x89, x90, x91, x92, x93, x94, x95, x96, x97, x98, x99, x100, x101, x102, x103, x104, x105, x106, x107, x108, x109, x110, x111, x112, x113, x114, x115, x116, x117, x118, x119, x120, x121, x122, x123, x124, x125, x126, x127, x128, x129, x130, x131, x132, x133, x134, x135, x136, x137, x138, x139, x140, x141, x142, x143, x144, x145, y146, y147, y148, y149, y150, y151, y152, y153, y154, y155, y156, y157, y158, y159, y160, y161, y162, y163, y164, y165, y166, y167, y168, y169, y170, y171, y172, y173, y174, y175, y176, y177, y178, y179, y180, y181, y182, y183, y184, y185, y186, y187, y188, y189, y190, y191, y192, y193, y194, y195, y196, y197, y198, y199, x200, x201], []⟩) → K a' w')) :
  Code.wp Tryz.prog (((Code.region 29 #[{ dst := some 146, op := Op.move (Operand.tmp 16), type := 4, pos := "ref.go:131", after := #[], guard := none }] false).seq (Code.cond (Operand.tmp 146) (Code.region 30 #[{ dst := some 147, op := Op.load 47 (Operand.tmp 15), type := 47, pos := "ref.go:132", after := #[], guard := none }, { dst := some 148, op := Op.move (Operand.tmp 8), type := 38, pos := "ref.go:132", after := #[], guard := none }, { dst := some 149, op := Op.fieldAddr 65 (Operand.tmp 12) 0, type := 0, pos := "ref.go:132", after := #[], guard := none }, { dst := some 150, op := Op.load 3 (Operand.tmp 149), type := 3, pos := "ref.go:132", after := #[{ on := 2, ground := Ground.data }], guard := none }, { dst := some 151, op := Op.indexAddr 38 (Operand.tmp 148) (Operand.tmp 150), type := 0, pos := "ref.go:132", after := #[{ on := 1, ground := Ground.data }, { on := 3, ground := Ground.data }], guard := none }, { dst := some 152, op := Op.load 47 (Operand.tmp 151), type := 47, pos := "ref.go:132", after := #[{ on := 4, ground := Ground.data }], guard := none }, { dst := some 153, op := Op.call { callee := Callee.value (Operand.func 57), args := #[Operand.tmp 147, Operand.tmp 152, Operand.const (Value.int IntKind.i64 1)], argTypes := #[47, 47, 3] }, type := 47, pos := "ref.go:132", after := #[{ on := 0, ground := Ground.data }, { on := 5, ground := Ground.data }], guard := none }, { dst := none, op := Op.store 47 (Operand.tmp 15) (Operand.tmp 153), type := 0, pos := "ref.go:132", after := #[{ on := 6, ground := Ground.data }, { on := 6, ground := Ground.chain }, { on := 0, ground := Ground.phase }, { on := 1, ground := Ground.phase }, { on := 2, ground := Ground.phase }, { on := 3, ground := Ground.phase }, { on := 4, ground := Ground.phase }, { on := 5, ground := Ground.phase }, { on := 6, ground := Ground.phase }], guard := none }] true) Code.skip)).seq ((Code.region 31 #[{ dst := some 154, op := Op.move (Operand.tmp 9), type := 31, pos := "ref.go:134", after := #[], guard := none }, { dst := some 155, op := Op.move (Operand.tmp 14), type := 3, pos := "ref.go:134", after := #[], guard := none }, { dst := some 156, op := Op.indexAddr 31 (Operand.tmp 154) (Operand.tmp 155), type := 0, pos := "ref.go:134", after := #[{ on := 0, ground := Ground.data }, { on := 1, ground := Ground.data }], guard := none }, { dst := some 157, op := Op.load 4 (Operand.tmp 156), type := 4, pos := "ref.go:134", after := #[{ on := 2, ground := Ground.data }], guard := none }, { dst := some 158, op := Op.move (Operand.tmp 157), type := 4, pos := "ref.go:134", after := #[{ on := 3, ground := Ground.data }], guard := none }, { dst := some 159, op := Op.move (Operand.tmp 16), type := 4, pos := "ref.go:134", after := #[{ on := 4, ground := Ground.guard }], guard := some (4, false) }, { dst := some 160, op := Op.move (Operand.tmp 159), type := 4, pos := "ref.go:134", after := #[{ on := 5, ground := Ground.data }, { on := 4, ground := Ground.chain }, { on := 4, ground := Ground.guard }], guard := some (4, false) }, { dst := some 161, op := Op.move (Operand.tmp 9), type := 31, pos := "ref.go:134", after := #[{ on := 6, ground := Ground.guard }], guard := some (6, true) }, { dst := some 162, op := Op.fieldAddr 65 (Operand.tmp 12) 0, type := 0, pos := "ref.go:134", after := #[{ on := 6, ground := Ground.guard }], guard := some (6, true) }, { dst := some 163, op := Op.load 3 (Operand.tmp 162), type := 3, pos := "ref.go:134", after := #[{ on := 8, ground := Ground.data }, { on := 6, ground := Ground.guard }], guard := some (6, true) }, { dst := some 164, op := Op.indexAddr 31 (Operand.tmp 161) (Operand.tmp 163), type := 0, pos := "ref.go:134", after := #[{ on := 7, ground := Ground.data }, { on := 9, ground := Ground.data }, { on := 6, ground := Ground.guard }], guard := some (6, true) }, { dst := some 165, op := Op.load 4 (Operand.tmp 164), type := 4, pos := "ref.go:134", after := #[{ on := 10, ground := Ground.data }, { on := 6, ground := Ground.guard }], guard := some (6, true) }, { dst := some 166, op := Op.pick (Operand.tmp 160) (Operand.tmp 165) (Operand.const (Value.bool false)), type := 4, pos := "ref.go:134", after := #[{ on := 6, ground := Ground.data }, { on := 11, ground := Ground.data }, { on := 4, ground := Ground.guard }], guard := some (4, false) }, { dst := some 167, op := Op.pick (Operand.tmp 158) (Operand.const (Value.bool true)) (Operand.tmp 166), type := 4, pos := "ref.go:134", after := #[{ on := 4, ground := Ground.data }, { on := 12, ground := Ground.data }], guard := none }, { dst := some 16, op := Op.assign (Operand.tmp 167), type := 4, pos := "ref.go:134", after := #[{ on := 13, ground := Ground.data }, { on := 6, ground := Ground.chain }, { on := 0, ground := Ground.phase }, { on := 1, ground := Ground.phase }, { on := 2, ground := Ground.phase }, { on := 3, ground := Ground.phase }, { on := 4, ground := Ground.phase }, { on := 5, ground := Ground.phase }, { on := 6, ground := Ground.phase }, { on := 7, ground := Ground.phase }, { on := 8, ground := Ground.phase }, { on := 9, ground := Ground.phase }, { on := 10, ground := Ground.phase }, { on := 11, ground := Ground.phase }, { on := 12, ground := Ground.phase }, { on := 13, ground := Ground.phase }], guard := none }] false).seq ((Code.region 32 #[{ dst := some 168, op := Op.load 47 (Operand.tmp 15), type := 47, pos := "ref.go:135", after := #[], guard := none }, { dst := some 169, op := Op.move (Operand.tmp 8), type := 38, pos := "ref.go:135", after := #[], guard := none }, { dst := some 170, op := Op.move (Operand.tmp 14), type := 3, pos := "ref.go:135", after := #[], guard := none }, { dst := some 171, op := Op.indexAddr 38 (Operand.tmp 169) (Operand.tmp 170), type := 0, pos := "ref.go:135", after := #[{ on := 1, ground := Ground.data }, { on := 2, ground := Ground.data }], guard := none }, { dst := some 172, op := Op.load 47 (Operand.tmp 171), type := 47, pos := "ref.go:135", after := #[{ on := 3, ground := Ground.data }], guard := none }, { dst := some 173, op := Op.binOp BinOp.neq 47 (Operand.tmp 168) (Operand.tmp 172) 47, type := 4, pos := "ref.go:135", after := #[{ on := 0, ground := Ground.data }, { on := 4, ground := Ground.data }], guard := none }, { dst := some 174, op := Op.move (Operand.tmp 173), type := 4, pos := "ref.go:135", after := #[{ on := 5, ground := Ground.data }], guard := none }, { dst := some 175, op := Op.move (Operand.tmp 16), type := 4, pos := "ref.go:135", after := #[{ on := 6, ground := Ground.guard }], guard := some (6, false) }, { dst := some 176, op := Op.move (Operand.tmp 9), type := 31, pos := "ref.go:135", after := #[{ on := 6, ground := Ground.guard }], guard := some (6, false) }, { dst := some 177, op := Op.move (Operand.tmp 14), type := 3, pos := "ref.go:135", after := #[{ on := 6, ground := Ground.guard }], guard := some (6, false) }, { dst := some 178, op := Op.indexAddr 31 (Operand.tmp 176) (Operand.tmp 177), type := 0, pos := "ref.go:135", after := #[{ on := 8, ground := Ground.data }, { on := 9, ground := Ground.data }, { on := 6, ground := Ground.guard }], guard := some (6, false) }, { dst := some 179, op := Op.load 4 (Operand.tmp 178), type := 4, pos := "ref.go:135", after := #[{ on := 10, ground := Ground.data }, { on := 6, ground := Ground.guard }], guard := some (6, false) }, { dst := some 180, op := Op.binOp BinOp.neq 4 (Operand.tmp 175) (Operand.tmp 179) 4, type := 4, pos := "ref.go:135", after := #[{ on := 7, ground := Ground.data }, { on := 11, ground := Ground.data }, { on := 6, ground := Ground.guard }], guard := some (6, false) }, { dst := some 181, op := Op.pick (Operand.tmp 174) (Operand.const (Value.bool true)) (Operand.tmp 180), type := 4, pos := "ref.go:135", after := #[{ on := 6, ground := Ground.data }, { on := 12, ground := Ground.data }], guard := none }, { dst := some 182, op := Op.move (Operand.tmp 181), type := 4, pos := "ref.go:135", after := #[{ on := 13, ground := Ground.data }, { on := 6, ground := Ground.chain }], guard := none }, { dst := some 183, op := Op.move (Operand.tmp 7), type := 31, pos := "ref.go:135", after := #[{ on := 14, ground := Ground.guard }], guard := some (14, false) }, { dst := some 184, op := Op.move (Operand.tmp 14), type := 3, pos := "ref.go:135", after := #[{ on := 14, ground := Ground.guard }], guard := some (14, false) }, { dst := some 185, op := Op.indexAddr 31 (Operand.tmp 183) (Operand.tmp 184), type := 0, pos := "ref.go:135", after := #[{ on := 15, ground := Ground.data }, { on := 16, ground := Ground.data }, { on := 14, ground := Ground.guard }], guard := some (14, false) }, { dst := some 186, op := Op.load 4 (Operand.tmp 185), type := 4, pos := "ref.go:135", after := #[{ on := 17, ground := Ground.data }, { on := 14, ground := Ground.guard }], guard := some (14, false) }, { dst := some 187, op := Op.unOp UnOp.not 4 (Operand.tmp 186), type := 4, pos := "ref.go:135", after := #[{ on := 18, ground := Ground.data }, { on := 14, ground := Ground.guard }], guard := some (14, false) }, { dst := some 188, op := Op.pick (Operand.tmp 182) (Operand.const (Value.bool true)) (Operand.tmp 187), type := 4, pos := "ref.go:135", after := #[{ on := 14, ground := Ground.data }, { on := 19, ground := Ground.data }], guard := none }] true).seq (Code.cond (Operand.tmp 188) ((Code.region 33 #[{ dst := some 189, op := Op.move (Operand.tmp 8), type := 38, pos := "ref.go:136", after := #[], guard := none }, { dst := some 190, op := Op.move (Operand.tmp 14), type := 3, pos := "ref.go:136", after := #[], guard := none }, { dst := some 191, op := Op.move (Operand.tmp 9), type := 31, pos := "ref.go:136", after := #[{ on := 9, ground := Ground.gcOnly Departure.lateStores }], guard := none }, { dst := some 192, op := Op.move (Operand.tmp 14), type := 3, pos := "ref.go:136", after := #[{ on := 9, ground := Ground.gcOnly Departure.lateStores }], guard := none }, { dst := some 193, op := Op.move (Operand.tmp 7), type := 31, pos := "ref.go:136", after := #[{ on := 11, ground := Ground.gcOnly Departure.lateStores }], guard := none }, { dst := some 194, op := Op.move (Operand.tmp 14), type := 3, pos := "ref.go:136", after := #[{ on := 11, ground := Ground.gcOnly Departure.lateStores }], guard := none }, { dst := some 195, op := Op.load 47 (Operand.tmp 15), type := 47, pos := "ref.go:136", after := #[], guard := none }, { dst := some 196, op := Op.move (Operand.tmp 16), type := 4, pos := "ref.go:136", after := #[{ on := 9, ground := Ground.gcOnly Departure.lateStores }], guard := none }, { dst := some 197, op := Op.indexAddr 38 (Operand.tmp 189) (Operand.tmp 190), type := 0, pos := "ref.go:136", after := #[{ on := 0, ground := Ground.data }, { on := 1, ground := Ground.data }, { on := 0, ground := Ground.phase }, { on := 1, ground := Ground.phase }, { on := 2, ground := Ground.textOnly Departure.lateStores }, { on := 3, ground := Ground.textOnly Departure.lateStores }, { on := 4, ground := Ground.textOnly Departure.lateStores }, { on := 5, ground := Ground.textOnly Departure.lateStores }, { on := 6, ground := Ground.phase }, { on := 7, ground := Ground.textOnly Departure.lateStores }], guard := none }, { dst := none, op := Op.store 47 (Operand.tmp 197) (Operand.tmp 195), type := 0, pos := "ref.go:136", after := #[{ on := 8, ground := Ground.data }, { on := 6, ground := Ground.data }, { on := 0, ground := Ground.phase }, { on := 1, ground := Ground.phase }, { on := 2, ground := Ground.textOnly Departure.lateStores }, { on := 3, ground := Ground.textOnly Departure.lateStores }, { on := 4, ground := Ground.textOnly Departure.lateStores }, { on := 5, ground := Ground.textOnly Departure.lateStores }, { on := 6, ground := Ground.phase }, { on := 7, ground := Ground.textOnly Departure.lateStores }], guard := none }, { dst := some 198, op := Op.indexAddr 31 (Operand.tmp 191) (Operand.tmp 192), type := 0, pos := "ref.go:136", after := #[{ on := 2, ground := Ground.data }, { on := 3, ground := Ground.data }, { on := 0, ground := Ground.phase }, { on := 1, ground := Ground.phase }, { on := 2, ground := Ground.phase }, { on := 3, ground := Ground.phase }, { on := 4, ground := Ground.textOnly Departure.lateStores }, { on := 5, ground := Ground.textOnly Departure.lateStores }, { on := 6, ground := Ground.phase }, { on := 7, ground := Ground.phase }, { on := 8, ground := Ground.phase }, { on := 9, ground := Ground.phase }], guard := none }, { dst := none, op := Op.store 4 (Operand.tmp 198) (Operand.tmp 196), type := 0, pos := "ref.go:136", after := #[{ on := 10, ground := Ground.data }, { on := 7, ground := Ground.data }, { on := 9, ground := Ground.chain }, { on := 0, ground := Ground.phase }, { on := 1, ground := Ground.phase }, { on := 2, ground := Ground.phase }, { on := 3, ground := Ground.phase }, { on := 4, ground := Ground.textOnly Departure.lateStores }, { on := 5, ground := Ground.textOnly Departure.lateStores }, { on := 6, ground := Ground.phase }, { on := 7, ground := Ground.phase }, { on := 8, ground := Ground.phase }, { on := 9, ground := Ground.phase }], guard := none }, { dst := some 199, op := Op.indexAddr 31 (Operand.tmp 193) (Operand.tmp 194), type := 0, pos := "ref.go:136", after := #[{ on := 4, ground := Ground.data }, { on := 5, ground := Ground.data }, { on := 0, ground := Ground.phase }, { on := 1, ground := Ground.phase }, { on := 2, ground := Ground.phase }, { on := 3, ground := Ground.phase }, { on := 4, ground := Ground.phase }, { on := 5, ground := Ground.phase }, { on := 6, ground := Ground.phase }, { on := 7, ground := Ground.phase }, { on := 8, ground := Ground.phase }, { on := 9, ground := Ground.phase }, { on := 10, ground := Ground.phase }, { on := 11, ground := Ground.phase }], guard := none }, { dst := none, op := Op.store 4 (Operand.tmp 199) (Operand.const (Value.bool true)), type := 0, pos := "ref.go:136", after := #[{ on := 12, ground := Ground.data }, { on := 11, ground := Ground.chain }, { on := 0, ground := Ground.phase }, { on := 1, ground := Ground.phase }, { on := 2, ground := Ground.phase }, { on := 3, ground := Ground.phase }, { on := 4, ground := Ground.phase }, { on := 5, ground := Ground.phase }, { on := 6, ground := Ground.phase }, { on := 7, ground := Ground.phase }, { on := 8, ground := Ground.phase }, { on := 9, ground := Ground.phase }, { on := 10, ground := Ground.phase }, { on := 11, ground := Ground.phase }], guard := none }] false).seq (Code.region 34 #[{ dst := some 10, op := Op.assign (Operand.const (Value.bool true)), type := 4, pos := "ref.go:137", after := #[], guard := none }] false)) Code.skip)))) (Exit.inBlock 5 (Exit.then K Q0)) ⟨#[x0, x1, x2, x3, x4, x5, x6, .slice (some ⟨Bi, 0, none⟩) n n, .slice (some ⟨Bo, 0, none⟩) n n, .slice (some ⟨Be, 0, none⟩) n n, .bool c, x11, .pointer (some ⟨Bp, 0, none⟩), x13, .int .i64 (kk : Int), .pointer (some ⟨Bq, 0, none⟩), .bool z, x17, x18, x19, x20, x21, x22, x23, x24, x25, x26, x27, x28, x29, x30, x31, x32, x33, x34, x35, x36, x37, x38, x39, x40, x41, x42, x43, x44, x45, x46, x47, x48, x49, x50, x51, x52, x53, x54, x55, x56, x57, x58, x59, x60, x61, x62, x63, x64, x65, x66, x67, x68, x69, x70, x71, x72, x73, x74, x75, x76, x77, x78, x79, x80, x81, x82, x83, x84, x85, x86, x87, x88, x89, x90, x91, x92, x93, x94, x95, x96, x97, x98, x99, x100, x101, x102, x103, x104, x105, x106, x107, x108, x109, x110, x111, x112, x113, x114, x115, x116, x117, x118, x119, x120, x121, x122, x123, x124, x125, x126, x127, x128, x129, x130, x131, x132, x133, x134, x135, x136, x137, x138, x139, x140, x141, x142, x143, x144, x145, x146, x147, x148, x149, x150, x151, x152, x153, x154, x155, x156, x157, x158, x159, x160, x161, x162, x163, x164, x165, x166, x167, x168, x169, x170, x171, x172, x173, x174, x175, x176, x177, x178, x179, x180, x181, x182, x183, x184, x185, x186, x187, x188, x189, x190, x191, x192, x193, x194, x195, x196, x197, x198, x199, x200, x201], []⟩ wc := by
 have ky1 : (kk : Int) < (n : Int) := by omega
 have ky0 : (0 : Int) ≤ (kk : Int) := by omega
 have hoe : Bo ≠ Be := blk_ne (LB.o HF3.out) (LB.e HF3.out) (by decide)
 have hoi : Bo ≠ Bi := blk_ne (LB.o HF3.out) (LB.i HF3.out) (by decide)
 have hei : Be ≠ Bi := Nat.ne_of_gt (LB.low HF3.out).2.2.2.2
 have heo := hoe.symm
 have hio := hoi.symm
 have hie := hei.symm
 obtain ⟨bt, bb, bf⟩ := bn
 dsimp only at *
 obtain ⟨el, hel⟩ : ∃ el, el = b0.fin := ⟨_, rfl⟩
 rw [← hel] at HE2
 have HEl := Lib.hid hel
 clear hel
 go_upto_if 146 with fail
 go_cut [16] from 146 to 153 (fun s16 wx => s16 = .bool z ∧ Hid (Blk wx Bq 47 (cset u2) ∧ Below Bq w3r wx))
 case first =>
  clear HPass HMore
  cases z with
  | false =>
   have HZ : Hid (Blk wc Bq 47 (cset u2) ∧ Below Bq w3r wc) := Lib.hid (by rw [HU2.out]; exact HC.out)
   go_wp2
   go_meet
   case rel => exact ⟨rfl, HZ⟩
  | true =>
   have hu2 : u2 = q ||| b0.bytes := HU2.out
   obtain ⟨bb0, hbb0⟩ : ∃ bb0, bb0 = b0.bytes := ⟨_, rfl⟩
   have HBb := Lib.hid hbb0
   rw [← hbb0] at hu2
   have HU := Lib.hid hu2
   have HBoth := Lib.hid (fun W => rboth_join q bb0 W)
   unfold vset at HBoth
   have kz1 : (k : Int) < (n : Int) := by omega
   have kz0 : (0 : Int) ≤ (k : Int) := by omega
   clear hu2 hbb0
   go_wp2
   refine wp_region_still_tail 6 (by kernel_rfl) (by kernel_rfl) ?_
   show wpStill _ _ (World.drew wc) _ _ _
   obtain ⟨V, hV⟩ : ∃ V, V = World.drew wc := ⟨_, rfl⟩
   have HV := Lib.hid hV
   rw [← hV]
   have HLV : Hid (Below Bq w3r V) := Lib.hid (by rw [hV]; exact HC.out.2.drew)
   have HQV : Hid (Blk V Bq 47 (cset q)) := Lib.hid (by rw [hV]; exact HC.out.1.drew)
   clear hV
   have HFV := Lib.hid (HF3.out.below (HLV.out.mono hw3))
   have HPV := Lib.hid (HP3.out.below HLV.out hqp)
   obtain ⟨p0, p1, p2, p3, p4, p5, p6⟩ := cells7g HPV.out
   have pl := HPV.out.lt
   have hqc := HQV.out
   unfold cset at hqc
   obtain ⟨e0, e1', e2, e3⟩ := cells4q hqc
   have qel := hqc.lt
   obtain ⟨o0, o1, o2', o3⟩ := HFV.out.bytes HB0.out.1
   rw [← HBb.out] at o0 o1 o2' o3
   have ol := (LB.o HFV.out).lt
   clear hqc
   simp only [List.take_succ_cons, List.take_zero, List.drop_succ_cons, List.drop_zero]
   repeat still_step
   refine wpStill_nil ?_
   show wpList _ _ _ _ _ (World.drew wc)
   rw [← HV.out]
   clear HV p0 p1 p2 p3 p4 p5 p6 pl e0 e1' e2 e3 o0 o1 o2' o3 ol
   go_wp2_with fail
   with_reducible refine (HBoth.out _).mono ?_
   rintro e w7 ⟨rfl, hB7⟩
   have hQ7 := HQV.out.below hB7 qel
   have hL7 := HLV.out.trans (hB7.mono (Nat.le_of_lt qel))
   have HZ : Hid (Blk (put4 w7 Bq 0 (q ||| bb0)) Bq 47 (cset u2) ∧ Below Bq w3r (put4 w7 Bq 0 (q ||| bb0))) := Lib.hid ⟨by rw [HU.out]; exact put4_one hQ7 _, put4_low hL7 (Nat.le_refl _)⟩
   have hqc := hQ7
   unfold cset at hqc
   obtain ⟨g0, g1, g2, g3⟩ := cells4q hqc
   have gl := hqc.lt
   have gf := hqc.frozen
   clear hB7 hQ7 hL7 hqc HBoth HQV HFV HLV HPV qel
   go_wp2
   go_meet
   case rel => exact ⟨rfl, HZ⟩
 obtain ⟨rfl, HC2⟩ := hcut
 clear HC
 have HF9 := Lib.hid (HF3.out.below (HC2.out.2.mono hw3))
 have HP9 := Lib.hid (HP3.out.below HC2.out.2 hqp)
 obtain ⟨p0, p1, p2, p3, p4, p5, p6⟩ := cells7g HP9.out
 have pl := HP9.out.lt
 obtain ⟨qi, qe⟩ := HF9.out.at HBn.out
 have qe0 := (HF9.out.at HB0.out.1).2
 rw [← HEl.out] at qe0
 have qil := (LB.i HF9.out).lt
 have qel := (LB.e HF9.out).lt
 have kz1 : (k : Int) < (n : Int) := by omega
 have kz0 : (0 : Int) ≤ (k : Int) := by omega
 dsimp only at qi qe
 go_upto_region 31 with fail
 go_cut [16] from 154 to 167 (fun s16 wx => s16 = .bool e2' ∧ wx = wc)
 case first =>
  cases bf <;> cases z <;> cases el
  all_goals
   go_wp2
   go_meet
   case rel => exact ⟨by rw [HE2.out]; rfl, rfl⟩
 obtain ⟨rfl, hwx⟩ := hcut
 rw [hwx]
 clear hwx
 have hqc := HC2.out.1
 unfold cset at hqc
 obtain ⟨e0, e1', e2, e3⟩ := cells4q hqc
 have el9 := hqc.lt
 obtain ⟨o0, o1, o2', o3⟩ := HF9.out.bytes HBn.out
 have ol := (LB.o HF9.out).lt
 have of0 := (LB.o HF9.out).frozen (kk * 4)
 have of1 := (LB.o HF9.out).frozen (kk * 4 + 1)
 have of2 := (LB.o HF9.out).frozen (kk * 4 + 2)
 have of3 := (LB.o HF9.out).frozen (kk * 4 + 3)
 have qif := (LB.i HF9.out).frozen kk
 have qef := (LB.e HF9.out).frozen kk
 dsimp only at o0 o1 o2' o3
 have HEq := eq_sets u2 bb
 clear hqc HE2 HU2 HC2 HEl
 by_cases hsame : u2 = bb
 ·have e9 : (u2 == bb) = true := by simpa using hsame
  rw [e9] at HEq
  have HSame := Lib.hid hsame
  clear hsame e9
  cases e2' <;> cases bf <;> cases bt
  ·have HMore := Lib.hid (HMore.out (fun h => by have h1 := congrArg BackM.there h; have h2 := congrArg BackM.fin h; first | cases h1; done | cases h2))
   clear HPass
   go_wp2
   go_quiet (fail)
   go_wp2
   exact HK.out _ _ ⟨true, _, _, _, _, _, _, _, _, _, _, _, _, _, _, _, _, _, _, _, _, _, _, _, _, _, _, _, _, _, _, _, _, _, _, _, _, _, _, _, _, _, _, _, _, _, _, _, _, _, _, _, _, _, _, _, _, HMore.out, Lib.hid ⟨LBB.put (HF9.out.below (below_drewN (Below.refl _ _) _)) (k := kk) (by rw [HLn.out]; exact hkk) u2 false, (((put4_other (HP9.out.below (below_drewN (Below.refl _ _) _) HP9.out.lt) hpo).other (a := ⟨Be, kk, none⟩) hpe _).other (a := ⟨Bi, kk, none⟩) hpi _)⟩, rfl⟩
  ·have HZ := Lib.hid (HPass.out (by rw [HSame.out]))
   clear HMore HPass
   go_wp2
   go_quiet (fail)
   go_wp2
   exact HK.out _ _ ⟨c, BB, _, _, _, _, _, _, _, _, _, _, _, _, _, _, _, _, _, _, _, _, _, _, _, _, _, _, _, _, _, _, _, _, _, _, _, _, _, _, _, _, _, _, _, _, _, _, _, _, _, _, _, _, _, _, _, HZ.out, Lib.hid ⟨HF9.out.below (below_drewN (Below.refl _ _) _), HP9.out.below (below_drewN (Below.refl _ _) _) HP9.out.lt⟩, rfl⟩
  ·have HMore := Lib.hid (HMore.out (fun h => by have h1 := congrArg BackM.there h; have h2 := congrArg BackM.fin h; first | cases h1; done | cases h2))
   clear HPass
   go_wp2
   go_quiet (fail)
   go_wp2
   exact HK.out _ _ ⟨true, _, _, _, _, _, _, _, _, _, _, _, _, _, _, _, _, _, _, _, _, _, _, _, _, _, _, _, _, _, _, _, _, _, _, _, _, _, _, _, _, _, _, _, _, _, _, _, _, _, _, _, _, _, _, _, _, HMore.out, Lib.hid ⟨LBB.put (HF9.out.below (below_drewN (Below.refl _ _) _)) (k := kk) (by rw [HLn.out]; exact hkk) u2 false, (((put4_other (HP9.out.below (below_drewN (Below.refl _ _) _) HP9.out.lt) hpo).other (a := ⟨Be, kk, none⟩) hpe _).other (a := ⟨Bi, kk, none⟩) hpi _)⟩, rfl⟩
  ·have HMore := Lib.hid (HMore.out (fun h => by have h1 := congrArg BackM.there h; have h2 := congrArg BackM.fin h; first | cases h1; done | cases h2))
   clear HPass
   go_wp2
   go_quiet (fail)
   go_wp2
   exact HK.out _ _ ⟨true, _, _, _, _, _, _, _, _, _, _, _, _, _, _, _, _, _, _, _, _, _, _, _, _, _, _, _, _, _, _, _, _, _, _, _, _, _, _, _, _, _, _, _, _, _, _, _, _, _, _, _, _, _, _, _, _, HMore.out, Lib.hid ⟨LBB.put (HF9.out.below (below_drewN (Below.refl _ _) _)) (k := kk) (by rw [HLn.out]; exact hkk) u2 false, (((put4_other (HP9.out.below (below_drewN (Below.refl _ _) _) HP9.out.lt) hpo).other (a := ⟨Be, kk, none⟩) hpe _).other (a := ⟨Bi, kk, none⟩) hpi _)⟩, rfl⟩
  ·have HMore := Lib.hid (HMore.out (fun h => by have h1 := congrArg BackM.there h; have h2 := congrArg BackM.fin h; first | cases h1; done | cases h2))
   clear HPass
   go_wp2
   go_quiet (fail)
   go_wp2
   exact HK.out _ _ ⟨true, _, _, _, _, _, _, _, _, _, _, _, _, _, _, _, _, _, _, _, _, _, _, _, _, _, _, _, _, _, _, _, _, _, _, _, _, _, _, _, _, _, _, _, _, _, _, _, _, _, _, _, _, _, _, _, _, HMore.out, Lib.hid ⟨LBB.put (HF9.out.below (below_drewN (Below.refl _ _) _)) (k := kk) (by rw [HLn.out]; exact hkk) u2 true, (((put4_other (HP9.out.below (below_drewN (Below.refl _ _) _) HP9.out.lt) hpo).other (a := ⟨Be, kk, none⟩) hpe _).other (a := ⟨Bi, kk, none⟩) hpi _)⟩, rfl⟩
  ·have HMore := Lib.hid (HMore.out (fun h => by have h1 := congrArg BackM.there h; have h2 := congrArg BackM.fin h; first | cases h1; done | cases h2))
   clear HPass
   go_wp2
   go_quiet (fail)
   go_wp2
   exact HK.out _ _ ⟨true, _, _, _, _, _, _, _, _, _, _, _, _, _, _, _, _, _, _, _, _, _, _, _, _, _, _, _, _, _, _, _, _, _, _, _, _, _, _, _, _, _, _, _, _, _, _, _, _, _, _, _, _, _, _, _, _, HMore.out, Lib.hid ⟨LBB.put (HF9.out.below (below_drewN (Below.refl _ _) _)) (k := kk) (by rw [HLn.out]; exact hkk) u2 true, (((put4_other (HP9.out.below (below_drewN (Below.refl _ _) _) HP9.out.lt) hpo).other (a := ⟨Be, kk, none⟩) hpe _).other (a := ⟨Bi, kk, none⟩) hpi _)⟩, rfl⟩
  ·have HMore := Lib.hid (HMore.out (fun h => by have h1 := congrArg BackM.there h; have h2 := congrArg BackM.fin h; first | cases h1; done | cases h2))
   clear HPass
   go_wp2
   go_quiet (fail)
   go_wp2
   exact HK.out _ _ ⟨true, _, _, _, _, _, _, _, _, _, _, _, _, _, _, _, _, _, _, _, _, _, _, _, _, _, _, _, _, _, _, _, _, _, _, _, _, _, _, _, _, _, _, _, _, _, _, _, _, _, _, _, _, _, _, _, _, HMore.out, Lib.hid ⟨LBB.put (HF9.out.below (below_drewN (Below.refl _ _) _)) (k := kk) (by rw [HLn.out]; exact hkk) u2 true, (((put4_other (HP9.out.below (below_drewN (Below.refl _ _) _) HP9.out.lt) hpo).other (a := ⟨Be, kk, none⟩) hpe _).other (a := ⟨Bi, kk, none⟩) hpi _)⟩, rfl⟩
  ·have HZ := Lib.hid (HPass.out (by rw [HSame.out]))
   clear HMore HPass
   go_wp2
   go_quiet (fail)
   go_wp2
   exact HK.out _ _ ⟨c, BB, _, _, _, _, _, _, _, _, _, _, _, _, _, _, _, _, _, _, _, _, _, _, _, _, _, _, _, _, _, _, _, _, _, _, _, _, _, _, _, _, _, _, _, _, _, _, _, _, _, _, _, _, _, _, _, HZ.out, Lib.hid ⟨HF9.out.below (below_drewN (Below.refl _ _) _), HP9.out.below (below_drewN (Below.refl _ _) _) HP9.out.lt⟩, rfl⟩
 ·have e9 : (u2 == bb) = false := by simpa using hsame
  rw [e9] at HEq
  have HMore := Lib.hid (HMore.out (fun h => hsame (congrArg BackM.bytes h)))
  clear HPass hsame e9
  go_wp2
  go_quiet (fail)
  go_wp2
  exact HK.out _ _ ⟨true, _, _, _, _, _, _, _, _, _, _, _, _, _, _, _, _, _, _, _, _, _, _, _, _, _, _, _, _, _, _, _, _, _, _, _, _, _, _, _, _, _, _, _, _, _, _, _, _, _, _, _, _, _, _, _, _, HMore.out, Lib.hid ⟨LBB.put (HF9.out.below (below_drewN (Below.refl _ _) _)) (k := kk) (by rw [HLn.out]; exact hkk) u2 e2', (((put4_other (HP9.out.below (below_drewN (Below.refl _ _) _) HP9.out.lt) hpo).other (a := ⟨Be, kk, none⟩) hpe _).other (a := ⟨Bi, kk, none⟩) hpi _)⟩, rfl⟩
end Go.Proofs.YtodnlcbnbkkanaaGreatDoor
end
