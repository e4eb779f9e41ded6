import Derived.Test.YtdodkbpagbblmaaDoorQ16
import Derived.Test.YtdodkbpagbblmaaDoorE
namespace Go.Proofs.YtdodkbpagbblmaaDoor
open Go Go.RowKit

theorem fields38 : (Tryd.prog.fieldsOf 38).toList.map (fun f => (f.name, f.type, f.offset)) = [("Kind", 33, 0), ("At", 3, 1), ("Text", 9, 2), ("Set", 36, 3), ("Number", 3, 7)] := by kernel_rfl

theorem eqf_cons (d : Nat) (xs ys : Array Value) (f : Field) (fs : List Field) (s : String) (t o : Nat) (h : (f.name, f.type, f.offset) = (s, t, o)) (hs : s ≠ "_") (a b : Value) (r : Bool) (w : World)
    (ha : (part t xs o).run Tryd.prog w = .ok a w) (hb : (part t ys o).run Tryd.prog w = .ok b w) (hr : (Op.equalIn d t a b).run Tryd.prog w = .ok r w) :
    (Op.eqFields d xs ys (f :: fs)).run Tryd.prog w = if r then (Op.eqFields d xs ys fs).run Tryd.prog w else .ok false w := by
  obtain ⟨rfl, rfl, rfl⟩ : f.name = s ∧ f.type = t ∧ f.offset = o := by simpa using h
  simp only [Op.eqFields, if_pos hs, Sem.run_bind, ha, hb, hr, Result.andThen_ok]
  cases r <;> simp

theorem eq_wds (n : Nat) (x y : Wd) (a b : Int) (w : World) : (Op.equalIn (n + 4) 38 (wordV x a) (wordV y b)).run Tryd.prog w =
    .ok (x.kind == y.kind && (a == b && (x.txt.toList == y.txt.toList && (x.set == y.set && x.num == y.num)))) w := by
  have h1 : Tryd.prog.underlying 38 = some (.struct (Tryd.prog.fieldsOf 38)) := by kernel_rfl
  have h2 : Tryd.prog.stoodInHeld 38 = false := by kernel_rfl
  have u33 : Tryd.prog.underlying 33 = some (.int .i64) := by kernel_rfl
  have u3 : Tryd.prog.underlying 3 = some (.int .i64) := by kernel_rfl
  have u9 : Tryd.prog.underlying 9 = some .string := by kernel_rfl
  have hf := fields38
  unfold wordV
  rw [run_equalIn_struct w (n + 3) 38 _ _ h1 h2]
  revert hf
  generalize (Tryd.prog.fieldsOf 38).toList = fs
  intro hf
  obtain ⟨f0, fs0, rfl⟩ : ∃ f l, fs = f :: l := by cases fs with | nil => simp at hf | cons f l => exact ⟨f, l, rfl⟩
  rw [List.map_cons, List.cons.injEq] at hf
  obtain ⟨g0, hf⟩ := hf
  obtain ⟨f1, fs1, rfl⟩ : ∃ f l, fs0 = f :: l := by cases fs0 with | nil => simp at hf | cons f l => exact ⟨f, l, rfl⟩
  rw [List.map_cons, List.cons.injEq] at hf
  obtain ⟨g1, hf⟩ := hf
  obtain ⟨f2, fs2, rfl⟩ : ∃ f l, fs1 = f :: l := by cases fs1 with | nil => simp at hf | cons f l => exact ⟨f, l, rfl⟩
  rw [List.map_cons, List.cons.injEq] at hf
  obtain ⟨g2, hf⟩ := hf
  obtain ⟨f3, fs3, rfl⟩ : ∃ f l, fs2 = f :: l := by cases fs2 with | nil => simp at hf | cons f l => exact ⟨f, l, rfl⟩
  rw [List.map_cons, List.cons.injEq] at hf
  obtain ⟨g3, hf⟩ := hf
  obtain ⟨f4, fs4, rfl⟩ : ∃ f l, fs3 = f :: l := by cases fs3 with | nil => simp at hf | cons f l => exact ⟨f, l, rfl⟩
  rw [List.map_cons, List.cons.injEq] at hf
  obtain ⟨g4, hf⟩ := hf
  obtain rfl : fs4 = [] := by simpa using hf
  obtain ⟨xk, xt, xs, xn⟩ := x
  obtain ⟨yk, yt, ys, yn⟩ := y
  unfold wordC
  dsimp only
  have e3 : (Op.equalIn (n + 3) 36 (.agg #[.int .u64 (wdI xs 0), .int .u64 (wdI xs 1), .int .u64 (wdI xs 2), .int .u64 (wdI xs 3)]) (.agg #[.int .u64 (wdI ys 0), .int .u64 (wdI ys 1), .int .u64 (wdI ys 2), .int .u64 (wdI ys 3)])).run Tryd.prog w = .ok (xs == ys) w := by
    rw [← vset_beq]; exact eq_words (n + 1) _ _ _ _ _ _ _ _ w
  rw [eqf_cons (n + 3) _ _ f0 _ _ _ _ g0 (by decide) (.int .i64 xk) (.int .i64 yk) _ w (by kernel_rfl) (by kernel_rfl) (run_equalIn_int w (n + 2) 33 .i64 .i64 xk yk u33),
    eqf_cons (n + 3) _ _ f1 _ _ _ _ g1 (by decide) (.int .i64 a) (.int .i64 b) _ w (by kernel_rfl) (by kernel_rfl) (run_equalIn_int w (n + 2) 3 .i64 .i64 a b u3),
    eqf_cons (n + 3) _ _ f2 _ _ _ _ g2 (by decide) (.string xt) (.string yt) _ w (by kernel_rfl) (by kernel_rfl) (run_equalIn_string w (n + 2) 9 xt yt u9),
    eqf_cons (n + 3) _ _ f3 _ _ _ _ g3 (by decide) _ _ _ w (by kernel_rfl) (by kernel_rfl) e3,
    eqf_cons (n + 3) _ _ f4 _ _ _ _ g4 (by decide) (.int .i64 xn) (.int .i64 yn) _ w (by kernel_rfl) (by kernel_rfl) (run_equalIn_int w (n + 2) 3 .i64 .i64 xn yn u3)]
  have e4 : (Op.eqFields (n + 3) (#[.int .i64 xk, .int .i64 a, .string xt, .int .u64 (wdI xs 0), .int .u64 (wdI xs 1), .int .u64 (wdI xs 2), .int .u64 (wdI xs 3), .int .i64 xn] : Array Value) (#[.int .i64 yk, .int .i64 b, .string yt, .int .u64 (wdI ys 0), .int .u64 (wdI ys 1), .int .u64 (wdI ys 2), .int .u64 (wdI ys 3), .int .i64 yn] : Array Value) []).run Tryd.prog w = .ok true w := by
    simp [Op.eqFields]
  rw [e4]
  cases xk == yk <;> cases a == b <;> cases xt.toList == yt.toList <;> cases xs == ys <;> cases xn == yn <;> rfl
end Go.Proofs.YtdodkbpagbblmaaDoor
