import Derived.Test.YtiihdbchchnncaaC6
namespace Go.Proofs.Ytiihdbchchnncaa
open Go Go.RowKit Go.Maps Go.WideMaps

/-- The map of names to their first numbers. -/
def nm : Nat → List ByteArray → DataW Unit
  | _, [] => .map []
  | off, x :: r => (nm (off + 1) r).put (.string x.data.toList) (.lit (.int .i64 (off : Nat)))
theorem nm_bk (l : List ByteArray) : nameD (bk l l.length) = nm 0 l := by
  have h : ∀ (l : List ByteArray) (off : Nat), ((l.zipIdx off).map fun p => (p.2, p.1)).foldr (fun x D => D.put (.string x.2.data.toList) (.lit (.int .i64 (x.1 : Nat)))) (.map [] : DataW Unit) = nm off l := by
    intro l
    induction l with
    | nil => intro off; rfl
    | cons x r ih =>
      intro off
      rw [List.zipIdx_cons, List.map_cons, List.foldr_cons, ih]
      rfl
  unfold nameD bk
  rw [List.take_length, List.foldl_reverse, ← h l 0]
def strEq (a b : ByteArray) : Bool := a.data.toList == b.data.toList
theorem strEq_comm (a b : ByteArray) : strEq a b = strEq b a := by
  unfold strEq
  rw [Bool.eq_iff_iff, beq_iff_eq, beq_iff_eq]
  exact eq_comm
theorem nm_tidy (l : List ByteArray) (hs : ∀ s, s ∈ l → s.size ≤ 1048576) : ∀ off, Tidy (nm off l) := by
  induction l with
  | nil => intro off; exact tidy_empty
  | cons x r ih =>
    intro off
    exact (ih (fun s h => hs s (by simp [h])) (off + 1)).put (key9.key (keyOf_string_mk Try.underlying9 (s := x) (by have := hs x (by simp); unfold maxLen; omega))) _
theorem name_key (x : ByteArray) (h : x.size ≤ 1048576) : WideAt.IsKeyLit (.string x.data.toList) := key9.key (keyOf_string_mk Try.underlying9 (s := x) (by unfold maxLen; omega))
theorem nm_has (l : List ByteArray) (hs : ∀ s, s ∈ l → s.size ≤ 1048576) (k : ByteArray) : ∀ off, has (nm off l) (.string k.data.toList) = l.any (fun s => strEq s k) := by
  induction l with
  | nil => intro off; rfl
  | cons x r ih =>
    intro off
    have ih := ih (fun s h => hs s (by simp [h])) (off + 1)
    rw [List.any_cons]
    by_cases e : x.data.toList = k.data.toList
    · have : strEq x k = true := by unfold strEq; simpa using e
      rw [this, Bool.true_or, nm, e]
      rw [← e]
      exact has_put_same (nm_tidy r (fun s h => hs s (by simp [h])) _).isMap (name_key x (hs x (by simp))) _
    · have : strEq x k = false := by unfold strEq; simpa using e
      rw [this, Bool.false_or, ← ih, nm]
      exact has_put_other (fun h => e (by injection h with h; exact h.symm)) _
theorem nm_size (l : List ByteArray) (hs : ∀ s, s ∈ l → s.size ≤ 1048576) : ∀ off, size (nm off l) ≤ l.length ∧ decide (size (nm off l) = l.length) = onceA strEq [] l := by
  induction l with
  | nil => intro off; exact ⟨Nat.le_refl _, rfl⟩
  | cons x r ih =>
    intro off
    obtain ⟨i1, i2⟩ := ih (fun s h => hs s (by simp [h])) (off + 1)
    have hh := nm_has r (fun s h => hs s (by simp [h])) x (off + 1)
    have hsz : size (nm off (x :: r)) = if has (nm (off + 1) r) (.string x.data.toList) then size (nm (off + 1) r) else size (nm (off + 1) r) + 1 :=
      size_put (nm_tidy r (fun s h => hs s (by simp [h])) _) _
    rw [hh] at hsz
    rw [hsz]
    have hp : onceA strEq [] (x :: r) = (!(r.any fun s => strEq s x) && onceA strEq [] r) := by
      rw [Bool.eq_iff_iff, onceA_iff, Bool.and_eq_true, onceA_iff, List.pairwise_cons]
      simp only [List.not_mem_nil, false_imp_iff, implies_true, true_and]
      constructor
      · rintro ⟨h1, h2⟩
        refine ⟨?_, h2⟩
        have : (r.any fun s => strEq s x) = false := by
          rw [List.any_eq_false]
          intro s hs'
          rw [strEq_comm, h1 s hs']; simp
        rw [this]; rfl
      · rintro ⟨h1, h2⟩
        refine ⟨fun s hs' => ?_, h2⟩
        rw [strEq_comm]
        cases h : strEq s x
        · rfl
        · have : (r.any fun s => strEq s x) = true := List.any_eq_true.2 ⟨s, hs', h⟩
          rw [this] at h1; cases h1
    rw [hp, ← i2]
    cases hr : (r.any fun s => strEq s x)
    · refine ⟨by simpa using i1, ?_⟩
      rw [Bool.eq_iff_iff]; simp
    · refine ⟨by simpa using (by omega : size (nm (off + 1) r) ≤ r.length + 1), ?_⟩
      simp only [if_true, List.length_cons, Bool.not_true, Bool.false_and, decide_eq_false_iff_not]
      omega
/-- The number of the first sort of a name. -/
def findN (k : ByteArray) (l : List ByteArray) : Option Nat := l.findIdx? fun s => strEq s k
theorem nm_at (l : List ByteArray) (hs : ∀ s, s ∈ l → s.size ≤ 1048576) (k : ByteArray) (z : DataW Unit) : ∀ off, (nm off l).atKey (.string k.data.toList) z = match findN k l with | some i => .lit (.int .i64 ((off + i : Nat) : Int)) | none => z := by
  induction l with
  | nil => intro off; rfl
  | cons x r ih =>
    intro off
    have ih := ih (fun s h => hs s (by simp [h])) (off + 1)
    unfold findN at *
    rw [List.findIdx?_cons]
    by_cases e : x.data.toList = k.data.toList
    · have : strEq x k = true := by unfold strEq; simpa using e
      rw [this, if_pos rfl, nm, e]
      rw [← e, atKey_put_same (nm_tidy r (fun s h => hs s (by simp [h])) _).isMap (name_key x (hs x (by simp)))]
      simp
    · have : strEq x k = false := by unfold strEq; simpa using e
      rw [this, if_neg (by simp), nm, atKey_put_other (fun h => e (by injection h with h; exact h.symm)), ih]
      cases r.findIdx? (fun s => strEq s k) with
      | none => rfl
      | some i =>
        simp only [Option.map_some]
        rw [show off + 1 + i = off + (i + 1) by omega]
theorem find_any (k : ByteArray) (l : List ByteArray) : (l.any fun s => strEq s k) = (findN k l).isSome := by
  unfold findN
  rw [List.findIdx?_isSome]

theorem byName_any (a : Option Addr) (c : Nat) (l : List ByteArray) (hl : l.length ≤ 1048576) (hs : ∀ s, s ∈ l → s.size ≤ 1048576) (w : World) (hrow : RowStr w a l) :
    Calls Try.prog 41 #[.slice a l.length c] w fun e w' => e = .returned (.map (some w.heap.size)) ∧ w'.ownsMap Try.prog 9 el3 w.heap.size l.length (nm 0 l) ∧ Below w.heap.size w w' := by
  have := callsIn_wide.1 (byName_in 8 (by omega) a c l hl hs w hrow)
  rw [nm_bk] at this
  exact this
end Go.Proofs.Ytiihdbchchnncaa
