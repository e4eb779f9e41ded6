import Derived.Test.YtiihdbchchnncaaM
namespace Go.Proofs.Ytiihdbchchnncaa
open Go Go.RowKit

/-- A function that says of each thing of a list whether p holds of it. -/
def Says {α : Type} (cs : α → Value) (p : α → Bool) (l : List α) (K : Nat) (lb : Array Value) (w : World) : Prop :=
  ∀ x, x ∈ l → ∀ W, Below w.heap.size w W → Calls Try.prog K (#[cs x] ++ lb) W fun e w' => e = .returned (.bool (p x)) ∧ Below W.heap.size W w'

theorem Says.later {α : Type} {cs : α → Value} {p : α → Bool} {l : List α} {K : Nat} {lb : Array Value} {w W : World} (h : Says cs p l K lb w) (hB : Below w.heap.size w W) : Says cs p l K lb W :=
  fun x hx V hV => h x hx V (hB.trans (hV.mono hB.size))

/-- Where the first thing stands of which q holds; -1: there is none. -/
def firstI {α : Type} (q : α → Bool) : List α → Int
  | [] => -1
  | x :: r => if q x then 0 else if firstI q r < 0 then -1 else firstI q r + 1
theorem firstI_lo {α : Type} (q : α → Bool) (l : List α) : -1 ≤ firstI q l := by
  induction l with
  | nil => simp [firstI]
  | cons x r ih => unfold firstI; split <;> (try split) <;> omega
theorem firstI_hit {α : Type} (q : α → Bool) : ∀ (l : List α) (m : Nat) (x : α), l[m]? = some x → q x = true → (∀ (j : Nat) (y : α), j < m → l[j]? = some y → q y = false) → firstI q l = m := by
  intro l
  induction l with
  | nil => intro m x h; simp at h
  | cons y r ih =>
    intro m x hx hq h
    cases m with
    | zero => simp at hx; subst hx; simp [firstI, hq]
    | succ m =>
      have h0 := h 0 y (by omega) rfl
      have := ih m x (by simpa using hx) hq (fun j z hj hz => h (j + 1) z (by omega) (by simpa using hz))
      rw [firstI, h0, this, if_neg (by simp), if_neg (by omega)]; omega
theorem firstI_none {α : Type} (q : α → Bool) : ∀ (l : List α), (∀ (j : Nat) (y : α), l[j]? = some y → q y = false) → firstI q l = -1 := by
  intro l
  induction l with
  | nil => intro _; rfl
  | cons y r ih =>
    intro h
    have := ih (fun j z hz => h (j + 1) z (by simpa using hz))
    rw [firstI, h 0 y rfl, this]; simp
theorem firstI_any {α : Type} (q : α → Bool) (l : List α) : decide (0 ≤ firstI q l) = l.any q := by
  induction l with
  | nil => rfl
  | cons x r ih =>
    rw [List.any_cons, ← ih, firstI]
    cases hq : q x
    · by_cases h : firstI q r < 0
      · have h1 : ¬ 0 ≤ firstI q r := by omega
        simp [h, h1]
      · have h1 : 0 ≤ firstI q r := by omega
        have h2 : 0 ≤ firstI q r + 1 := by omega
        simp [h, h1, h2]
    · simp
theorem firstI_lt {α : Type} (q : α → Bool) (l : List α) : firstI q l < l.length := by
  induction l with
  | nil => simp [firstI]
  | cons x r ih => unfold firstI; simp only [List.length_cons]; split <;> (try split) <;> omega
theorem any_not {α : Type} (p : α → Bool) (l : List α) : (!l.any fun x => !p x) = l.all p := by
  induction l with
  | nil => rfl
  | cons x r ih => simp only [List.any_cons, List.all_cons, ← ih]; cases p x <;> simp

def strV (s : ByteArray) : Value := .string s
def symV (x : SymM) : Value := .agg (symC x)
def prodV (x : ProdM) : Value := .agg (prodC x)
def forV (x : ForM) : Value := .agg (forC x)
def folV (x : FolM) : Value := .agg (folC x)
def treeV (x : TreeM) : Value := .agg (treeC x)
def gramV (x : GramM) : Value := .agg (gramC x)
theorem Str_at {w : World} {b o : Nat} {x : ByteArray} (h : CellsAt w b o (strC x)) : w.cell? ⟨b, o, none⟩ = some (.string x) :=
  h 0 _ rfl
theorem Int_at {w : World} {b o : Nat} {x : Int} (h : CellsAt w b o (intC x)) : w.cell? ⟨b, o, none⟩ = some (.int .i64 x) :=
  h 0 _ rfl
theorem Bool_at {w : World} {b o : Nat} {x : Bool} (h : CellsAt w b o (boolC x)) : w.cell? ⟨b, o, none⟩ = some (.bool x) :=
  h 0 _ rfl
theorem Sym_at {w : World} {b o : Nat} {x : SymM} (h : CellsAt w b o (symC x)) : w.cell? ⟨b, o, none⟩ = some (.int .i64 x.kind) ∧ w.cell? ⟨b, o + 1, none⟩ = some (.int .u64 (wdI x.set 0)) ∧ w.cell? ⟨b, o + 2, none⟩ = some (.int .u64 (wdI x.set 1)) ∧ w.cell? ⟨b, o + 3, none⟩ = some (.int .u64 (wdI x.set 2)) ∧ w.cell? ⟨b, o + 4, none⟩ = some (.int .u64 (wdI x.set 3)) ∧ w.cell? ⟨b, o + 5, none⟩ = some (.int .i64 x.sort) :=
  ⟨h 0 _ rfl, h 1 _ rfl, h 2 _ rfl, h 3 _ rfl, h 4 _ rfl, h 5 _ rfl⟩
theorem Prod_at {w : World} {b o : Nat} {x : ProdM} (h : CellsAt w b o (prodC x)) : w.cell? ⟨b, o, none⟩ = some (.int .i64 x.left) ∧ w.cell? ⟨b, o + 1, none⟩ = some (.slice x.ra x.right.length x.rc) ∧ w.cell? ⟨b, o + 2, none⟩ = some (.string x.cons) ∧ w.cell? ⟨b, o + 3, none⟩ = some (.int .i64 x.role) ∧ w.cell? ⟨b, o + 4, none⟩ = some (.bool x.prefer) ∧ w.cell? ⟨b, o + 5, none⟩ = some (.bool x.avoid) ∧ w.cell? ⟨b, o + 6, none⟩ = some (.int .i64 x.frm) :=
  ⟨h 0 _ rfl, h 1 _ rfl, h 2 _ rfl, h 3 _ rfl, h 4 _ rfl, h 5 _ rfl, h 6 _ rfl⟩
theorem For_at {w : World} {b o : Nat} {x : ForM} (h : CellsAt w b o (forC x)) : w.cell? ⟨b, o, none⟩ = some (.int .i64 x.parent) ∧ w.cell? ⟨b, o + 1, none⟩ = some (.int .i64 x.at_) ∧ w.cell? ⟨b, o + 2, none⟩ = some (.int .i64 x.child) :=
  ⟨h 0 _ rfl, h 1 _ rfl, h 2 _ rfl⟩
theorem Fol_at {w : World} {b o : Nat} {x : FolM} (h : CellsAt w b o (folC x)) : w.cell? ⟨b, o, none⟩ = some (.int .i64 x.sort) ∧ w.cell? ⟨b, o + 1, none⟩ = some (.int .u64 (wdI x.not 0)) ∧ w.cell? ⟨b, o + 2, none⟩ = some (.int .u64 (wdI x.not 1)) ∧ w.cell? ⟨b, o + 3, none⟩ = some (.int .u64 (wdI x.not 2)) ∧ w.cell? ⟨b, o + 4, none⟩ = some (.int .u64 (wdI x.not 3)) :=
  ⟨h 0 _ rfl, h 1 _ rfl, h 2 _ rfl, h 3 _ rfl, h 4 _ rfl⟩
theorem Tree_at {w : World} {b o : Nat} {p y : Int} {ka : Option Addr} {kc : Nat} {kids : List TreeM} (h : CellsAt w b o (treeC (.node p y ka kc kids))) : w.cell? ⟨b, o, none⟩ = some (.int .i64 p) ∧ w.cell? ⟨b, o + 1, none⟩ = some (.int .u8 y) ∧ w.cell? ⟨b, o + 2, none⟩ = some (.slice ka kids.length kc) :=
  ⟨h 0 _ rfl, h 1 _ rfl, h 2 _ rfl⟩
theorem Gram_at {w : World} {b o : Nat} {g : GramM} (h : CellsAt w b o (gramC g)) : w.cell? ⟨b, o, none⟩ = some (.slice g.sa g.sorts.length g.sc) ∧ w.cell? ⟨b, o + 1, none⟩ = some (.slice g.pa g.prods.length g.pc) ∧ w.cell? ⟨b, o + 2, none⟩ = some (.int .i64 g.start) ∧ w.cell? ⟨b, o + 3, none⟩ = some (.slice g.fa g.forbid.length g.fc) ∧ w.cell? ⟨b, o + 4, none⟩ = some (.slice g.wa g.follow.length g.wc) :=
  ⟨h 0 _ rfl, h 1 _ rfl, h 2 _ rfl, h 3 _ rfl, h 4 _ rfl⟩
end Go.Proofs.Ytiihdbchchnncaa
