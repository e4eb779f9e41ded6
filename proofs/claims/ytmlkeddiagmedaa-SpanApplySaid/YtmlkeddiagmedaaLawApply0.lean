import Derived.Test.YtmlkeddiagmedaaWant
import Derived.Test.YtmlkeddiagmedaaArgs
import Derived.Test.YtmlkeddiagmedaaTwice0
namespace Go.Proofs.Ytmlkeddiagmedaa
open Go.RowKit Go.Deep Go.ChangeShapes Go.WideShapes

theorem not_ovl_of_sym {n : Int} {sd : List Ed} (hg : ∀ x ∈ sd, goodEd n x) (hs : SortedEd sd) (hsb : sd.Pairwise SymBef) : ¬ Ovl sd := by
  rintro ⟨i, x, y, hx, hy, hbd⟩
  have h1 := symBef_at hsb hx hy (by omega)
  have gx := hg x (List.mem_of_getElem? hx)
  have gy := hg y (List.mem_of_getElem? hy)
  have hs := sorted_at hs hx hy
  unfold SymBef Bef at h1
  unfold pairBad at hbd
  unfold goodEd at gx gy
  omega

theorem clash_sym {n : Int} {d : List Ed} (hg : ∀ x ∈ d, goodEd n x) (hc : ¬ Clash d) : d.Pairwise SymBef := by
  rw [List.pairwise_iff_getElem]
  intro i j hi hj hij
  have gx := hg _ (List.getElem_mem hi)
  have gy := hg _ (List.getElem_mem hj)
  have h : ¬ OverP d[j].1 d[j].2.1 d[i].1 d[i].2.1 := fun h => hc ⟨j, i, d[j], d[i], hij, by simp [hj], by simp [hi], h⟩
  have h2 : SymBef d[j] d[i] := Classical.byContradiction fun hn => h ((over_sym gy gx).2 hn)
  exact h2.symm

theorem sym_clash {n : Int} {d : List Ed} (hg : ∀ x ∈ d, goodEd n x) (hs : d.Pairwise SymBef) : ¬ Clash d := by
  rintro ⟨i, k, x, y, hk, hx, hy, ho⟩
  have gx := hg x (List.mem_of_getElem? hx)
  have gy := hg y (List.mem_of_getElem? hy)
  exact ((over_sym gx gy).1 ho) (symBef_at hs hx hy (by omega))

theorem ovl_clash {n : Int} {d sd : List Ed} (hg : ∀ x ∈ d, goodEd n x) (hp : sd.Perm d) (hs : SortedEd sd) : Ovl sd ↔ Clash d := by
  have hgs : ∀ x ∈ sd, goodEd n x := fun x hx => hg x (hp.mem_iff.1 hx)
  constructor
  · intro ho
    apply Classical.byContradiction
    intro hc
    have h1 := clash_sym hg hc
    have h2 : sd.Pairwise SymBef := (hp.symm.pairwise_iff fun {x y} (hxy : SymBef x y) => hxy.symm).1 h1
    exact not_ovl_of_sym hgs hs h2 ho
  · intro hc
    apply Classical.byContradiction
    intro ho
    exact sym_clash hg (symBef_perm (bef_of_sorted n sd hgs ho) hp) hc

def outA (s : ByteArray) (d : List Ed) (G : ByteArray) (er : Int) : Prop :=
  (¬ (∀ x ∈ d, goodEd s.size x) ∧ G = ⟨#[]⟩ ∧ er = 4) ∨ ((∀ x ∈ d, goodEd s.size x) ∧ Clash d ∧ G = ⟨#[]⟩ ∧ er = 110) ∨
    ((∀ x ∈ d, goodEd s.size x) ∧ ¬ Clash d ∧ er = 0 ∧ ∃ sd : List Ed, sd.Perm d ∧ sd.Pairwise Bef ∧ G = ⟨(applyA s.data.toList sd).toArray⟩)

theorem apply_u (s : ByteArray) (a : Option Addr) (cap : Nat) (d : List Ed) (w : World) (hs : s.size ≤ 3000) (hd : RowEd w a d) (hl : d.length ≤ 20) (hB : smallEd 3000 d) :
    Calls Try.prog 16 #[.string s, .slice a d.length cap] w fun e w' => Below w.heap.size w w' ∧ ∃ G er, e = .returned (.tuple #[.string G, .int .i64 er]) ∧ outA s d G er := by
  refine (apply_any s a cap d w 3000 (by omega) hd (by omega) hB (by decide) (by omega)).mono ?_
  rintro e w' ⟨hBl, ⟨hno, rfl⟩ | ⟨hgood, sd, hperm, hsort, h⟩⟩
  · exact ⟨hBl, _, _, rfl, .inl ⟨hno, rfl, rfl⟩⟩
  · have hgs : ∀ x ∈ sd, goodEd s.size x := fun x hx => hgood x (hperm.mem_iff.1 hx)
    rcases h with ⟨hv, rfl⟩ | ⟨hv, ⟨hbig, rfl⟩ | ⟨_, rfl⟩⟩
    · exact ⟨hBl, _, _, rfl, .inr (.inl ⟨hgood, (ovl_clash hgood hperm hsort).1 hv, rfl, rfl⟩)⟩
    · have hsum := sumG_bd s.size 3000 sd hgs (fun x hx => hB x (hperm.mem_iff.1 hx))
      have : sd.length ≤ 20 := by rw [hperm.length_eq]; exact hl
      omega
    · exact ⟨hBl, _, _, rfl, .inr (.inr ⟨hgood, fun hc => hv ((ovl_clash hgood hperm hsort).2 hc), rfl, sd, hperm, bef_of_sorted s.size sd hgs hv, rfl⟩)⟩

def outU (s : ByteArray) (d : List Ed) (B : Nat) (a : Option Addr) (n c : Nat) (er : Int) (w : World) : Prop :=
  (¬ (∀ x ∈ d, goodEd s.size x) ∧ n = 0 ∧ er = 4) ∨ ((∀ x ∈ d, goodEd s.size x) ∧ Clash d ∧ n = 0 ∧ er = 110) ∨
    ((∀ x ∈ d, goodEd s.size x) ∧ ¬ Clash d ∧ er = 0 ∧ ∃ sd : List Ed, sd.Perm d ∧ sd.Pairwise Bef ∧ n = (undoA s (joinA sd) 0).length ∧ OwnEd B (.slice a n c) (undoA s (joinA sd) 0) w)

theorem undo_u (s : ByteArray) (a : Option Addr) (cap : Nat) (d : List Ed) (w : World) (hs : s.size ≤ 3000) (hd : RowEd w a d) (hl : d.length ≤ 20) (hB : smallEd 3000 d) :
    Calls Try.prog 17 #[.string s, .slice a d.length cap] w fun e w' => Below w.heap.size w w' ∧ ∃ a2 n c er, e = .returned (.tuple #[.slice a2 n c, .int .i64 er]) ∧ outU s d w.heap.size a2 n c er w' := by
  refine (undo_any s a cap d w 3000 (by omega) hd (by omega) hB (by decide)).mono ?_
  rintro e w' ⟨hBl, ⟨hno, rfl⟩ | ⟨hgood, sd, hperm, hsort, h⟩⟩
  · exact ⟨hBl, _, _, _, _, rfl, .inl ⟨hno, rfl, rfl⟩⟩
  · have hgs : ∀ x ∈ sd, goodEd s.size x := fun x hx => hgood x (hperm.mem_iff.1 hx)
    rcases h with ⟨hv, rfl⟩ | ⟨hv, ⟨hbig, rfl⟩ | ⟨_, v, rfl, hO⟩⟩
    · exact ⟨hBl, _, _, _, _, rfl, .inr (.inl ⟨hgood, (ovl_clash hgood hperm hsort).1 hv, rfl, rfl⟩)⟩
    · have hsum := sumG_bd s.size 3000 sd hgs (fun x hx => hB x (hperm.mem_iff.1 hx))
      have : sd.length ≤ 20 := by rw [hperm.length_eq]; exact hl
      omega
    · have hv2 : ∃ a2 c, v = .slice a2 (undoA s (joinA sd) 0).length c := by
        rcases hO.shape with ⟨h1, h2⟩ | ⟨g, c, h, _⟩
        · exact ⟨none, 0, by rw [h1, h2]; rfl⟩
        · exact ⟨_, _, h⟩
      obtain ⟨a2, c, rfl⟩ := hv2
      exact ⟨hBl, _, _, _, _, rfl, .inr (.inr ⟨hgood, fun hc => hv ((ovl_clash hgood hperm hsort).2 hc), rfl, sd, hperm, bef_of_sorted s.size sd hgs hv, rfl, hO⟩)⟩

/-- Both speak of the same list. -/
theorem one_sd {n : Int} {d sd sd' : List Ed} (hg : ∀ x ∈ d, goodEd n x) (hp : sd.Perm d) (hb : sd.Pairwise Bef) (hp' : sd'.Perm d) (hb' : sd'.Pairwise Bef) : sd' = sd :=
  sorted_unique (n := n) (fun x hx => hg x (hp.mem_iff.1 hx)) (hp'.trans hp.symm) hb' hb

section
variable {H : Type} {enc : TypeId × Value → H} {w : World} {base : Nat} {spare : Nat → Bool} {held : Bool}
theorem eds_cap {fuel : Nat} {a : Option Addr} {len cap : Nat} {x : DataW H × List MemPlace} (h : DataW.trod enc Try.prog w base spare held fuel 39 [.slice a len cap] = some x) : a = none → cap = 0 := by
  rcases open_slice Try.underlying39 h with ⟨h0, _⟩ | ⟨a', len', cap', m, n, D, Pl, hcs, _⟩
  · simp at h0
    intro _; exact h0.2.2
  · simp at hcs
    intro h; rw [h] at hcs; simp at hcs
end

end Go.Proofs.Ytmlkeddiagmedaa
