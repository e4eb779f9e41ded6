import Derived.Test.YtmlkeddiagmedaaGrow3
namespace Go.Proofs.Ytmlkeddiagmedaa
open Go.RowKit

def stepA (old : List UInt8) (st : List UInt8 × Nat) (x : Ed) : List UInt8 × Nat := (st.1 ++ (old.take x.1.toNat).drop st.2 ++ x.2.2.data.toList, x.2.1.toNat)
def runA (old : List UInt8) (sd : List Ed) : List UInt8 × Nat := sd.foldl (stepA old) ([], 0)
def applyA (old : List UInt8) (sd : List Ed) : List UInt8 := (runA old sd).1 ++ old.drop (runA old sd).2

theorem runA_snoc (old : List UInt8) (sd : List Ed) (x : Ed) : runA old (sd ++ [x]) = stepA old (runA old sd) x := by simp [runA]

/-- How far the run has come, before the k-th Edit. -/
theorem runA_done (old : List UInt8) (sd : List Ed) (n : Nat) (hg : ∀ x ∈ sd, goodEd n x) (hv : ¬ Ovl sd) (k : Nat) (x : Ed) (hx : sd[k]? = some x) :
    (runA old (sd.take k)).2 ≤ x.1.toNat := by
  cases k with
  | zero => simp [runA]
  | succ j =>
    have hj : j < sd.length := by have := (List.getElem?_eq_some_iff.1 hx).1; omega
    have hy : sd[j]? = some sd[j] := by simp [hj]
    rw [take_snoc sd j _ hy, runA_snoc]
    show (sd[j]).2.1.toNat ≤ _
    have h1 := hg sd[j] (List.mem_of_getElem? hy)
    have h2 : ¬ pairBad sd[j] x := fun h => hv ⟨j, _, _, hy, hx, h⟩
    unfold pairBad at h2
    unfold goodEd at h1
    omega

theorem runA_len (old : List UInt8) (sd : List Ed) (hg : ∀ x ∈ sd, goodEd old.length x) (hv : ¬ Ovl sd) : ∀ k, k ≤ sd.length →
    (runA old (sd.take k)).2 ≤ old.length ∧ ((runA old (sd.take k)).1.length : Int) = (runA old (sd.take k)).2 + sumG (sd.take k) := by
  intro k
  induction k with
  | zero => intro _; simp [runA, sumG]
  | succ k ih =>
    intro hk
    have hx : sd[k]? = some sd[k] := by simp [show k < sd.length by omega]
    obtain ⟨h1, h2⟩ := ih (by omega)
    have h3 := runA_done old sd _ hg hv k _ hx
    have h4 := hg sd[k] (List.mem_of_getElem? hx)
    rw [take_snoc sd k _ hx, runA_snoc, sumG_snoc]
    generalize runA old (sd.take k) = r at *
    generalize sd[k] = x at *
    unfold goodEd at h4
    unfold growI
    have e3 : x.2.2.data.toList.length = x.2.2.size := by simp
    simp only [stepA, List.length_append, List.length_drop, List.length_take, e3]
    omega

def applyPost (s : ByteArray) (d : List Ed) (w : World) (e : Ending) (w' : World) : Prop :=
  Below w.heap.size w w' ∧ ((¬ (∀ x ∈ d, goodEd s.size x) ∧ e = .returned (.tuple #[.string ⟨#[]⟩, .int .i64 4])) ∨
    ((∀ x ∈ d, goodEd s.size x) ∧ ∃ sd : List Ed, sd.Perm d ∧ SortedEd sd ∧
      ((Ovl sd ∧ e = .returned (.tuple #[.string ⟨#[]⟩, .int .i64 110])) ∨
       (¬ Ovl sd ∧ ((1048576 < s.size + sumG sd ∧ e = .returned (.tuple #[.string ⟨#[]⟩, .int .i64 3])) ∨
         (s.size + sumG sd ≤ 1048576 ∧ e = .returned (.tuple #[.string ⟨(applyA s.data.toList sd).toArray⟩, .int .i64 0])))))))

set_option maxHeartbeats 1000000 in
theorem apply_any (s : ByteArray) (a : Option Addr) (cap : Nat) (d : List Ed) (w : World) (B : Nat) (hs : s.size ≤ 1048576) (hd : RowEd w a d) (hl : d.length ≤ 1048576) (hB : smallEd B d) (hBB : B ≤ 1073741824) (hBl : B * d.length ≤ 268435456) :
    Calls Try.prog 16 #[.string s, .slice a d.length cap] w (applyPost s d w) := by
  have HT := Lib.hid (applicable_any s a cap d w B hs hd hl hB hBB)
  have HB := Lib.hid hB
  clear hd hB
  go_enter Try.func16, Try.ntmps16
  go_wp2_with fail
  refine HT.out.mono ?_
  rintro e w1 ⟨hB1, ⟨hno, rfl⟩ | ⟨hgood, sd, hperm, hsort, ⟨hov, rfl⟩ | ⟨hnov, ⟨hbig, rfl⟩ | ⟨hle, a1, c1, hrow, hfresh, rfl⟩⟩⟩⟩
  · have H := Lib.hid hno; clear hno
    go_wp2
    go_ret2
    exact ⟨hB1, .inl ⟨H.out, rfl⟩⟩
  · have H := Lib.hid (And.intro hgood (And.intro hperm (And.intro hsort hov))); clear hgood hperm hsort hov
    go_wp2
    go_ret2
    exact ⟨hB1, .inr ⟨H.out.1, sd, H.out.2.1, H.out.2.2.1, .inl ⟨H.out.2.2.2, rfl⟩⟩⟩
  · have H := Lib.hid (And.intro hgood (And.intro hperm (And.intro hsort (And.intro hnov hbig)))); clear hgood hperm hsort hnov hbig
    go_wp2
    go_ret2
    exact ⟨hB1, .inr ⟨H.out.1, sd, H.out.2.1, H.out.2.2.1, .inr ⟨H.out.2.2.2.1, .inl ⟨H.out.2.2.2.2, rfl⟩⟩⟩⟩
  · have hlen : sd.length = d.length := hperm.length_eq
    have hgs : ∀ x ∈ sd, goodEd s.size x := fun x hx => hgood x (hperm.mem_iff.1 hx)
    have hss : smallEd B sd := fun x hx => HB.out x (hperm.mem_iff.1 hx)
    have hsl : sd.length ≤ 1048576 := by omega
    have hsz : s.data.toList.length = s.size := by simp
    have hbd : ∀ k, k ≤ sd.length → (runA s.data.toList (sd.take k)).2 ≤ s.size ∧ (runA s.data.toList (sd.take k)).1.length ≤ 1073741824 := by
      intro k hk
      have h1 := runA_len s.data.toList sd (by rw [hsz]; exact hgs) hnov k hk
      have hb := sumG_bd s.size B (sd.take k) (take_mem hgs) (take_mem hss)
      have hkl : (sd.take k).length ≤ d.length := by rw [List.length_take]; omega
      have m2 : B * (sd.take k).length ≤ B * d.length := Nat.mul_le_mul (Nat.le_refl _) hkl
      omega
    have HBD := Lib.hid hbd
    have HDN := Lib.hid (fun k x (hx : sd[k]? = some x) => runA_done s.data.toList sd s.size hgs hnov k x hx)
    have H := Lib.hid (And.intro hgood (And.intro hperm (And.intro hsort (And.intro hnov (And.intro hle hfresh)))))
    have HG := Lib.hid (And.intro hgs hss)
    have HR := Lib.hid hrow
    clear hgood hperm hsort hnov hfresh hgs hss hlen hrow hl HT HB hbd hle hsz hBl
    have hnew : GrowAt w1.heap.size w1.heap.size (.pointer none) [] s 0 (w1.alloc (.cells #[.pointer none, .slice none 0 0, .string s, .int .i64 0] 70)) :=
      ⟨Nat.le_refl _, .slice none 0 0, Blk.new w1 70 _, World.ownsRow_nil _ _ _ _, by simp [Value.ownBlock], by simp⟩
    go_wp2_with fail
    go_loopw [24] (fun p wr => ∃ k : Nat, p = .int .i64 k ∧ k ≤ sd.length ∧ Hid (∃ pv, (pv = .pointer none ∨ pv = selfP w1.heap.size) ∧ GrowAt w1.heap.size w1.heap.size pv (runA s.data.toList (sd.take k)).1 s (runA s.data.toList (sd.take k)).2 wr) ∧ Below w1.heap.size w1 wr ∧ w1.heap.size < wr.heap.size)
      (fun p _ => sd.length - (intOf p).toNat)
    case atStart => exact ⟨0, rfl, Nat.zero_le _, ⟨_, .inl rfl, hnew⟩, (Below.refl _ _).alloc (Nat.le_refl _) _, by simp⟩
    case round =>
      clear hnew
      obtain ⟨k, rfl, hk, hG, hB2, hw2⟩ := hrel
      by_cases hlt : k < sd.length
      · obtain ⟨x, hx⟩ : ∃ x, sd[k]? = some x := ⟨sd[k], by simp [hlt]⟩
        obtain ⟨b, off, rfl, x0, x1, x2⟩ := HR.out _ _ hx
        have hb := lt_of_cell x0
        have cx0 : wr.cell? ⟨b, off + k * 3, none⟩ = some (.int .i64 x.1) := (hB2.cell (p := ⟨b, _, none⟩) hb).trans x0
        have cx1 : wr.cell? ⟨b, off + k * 3 + 1, none⟩ = some (.int .i64 x.2.1) := (hB2.cell (p := ⟨b, _, none⟩) hb).trans x1
        have cx2 : wr.cell? ⟨b, off + k * 3 + 2, none⟩ = some (.string x.2.2) := (hB2.cell (p := ⟨b, _, none⟩) hb).trans x2
        have hgx := HG.out.1 x (List.mem_of_getElem? hx)
        have hsx := HG.out.2 x (List.mem_of_getElem? hx)
        unfold goodEd at hgx
        obtain ⟨f, u, t⟩ := x
        dsimp only at *
        obtain ⟨g0, g1, g2⟩ := hgx
        obtain ⟨f, rfl⟩ := Int.eq_ofNat_of_zero_le g0
        obtain ⟨u, rfl⟩ := Int.eq_ofNat_of_zero_le (a := u) (by omega)
        have hdn := HDN.out k _ hx
        have hbk := HBD.out k hk
        have HE : Hid (runA s.data.toList (sd.take (k + 1)) = stepA s.data.toList (runA s.data.toList (sd.take k)) ((f : Int), (u : Int), t)) := by
          show _ = _
          rw [take_snoc sd k _ hx, runA_snoc]
        clear x0 x1 x2 hx
        obtain ⟨pv, hpv, hga⟩ := hG.out
        clear hG
        have hga2 : GrowAt w1.heap.size w1.heap.size pv (runA s.data.toList (sd.take k)).1 s (runA s.data.toList (sd.take k)).2 (wr.alloc (.cells #[.int .i64 f, .int .i64 u, .string t] 42)) := by
          obtain ⟨q1, v, q2, q3, q4, q5⟩ := hga
          exact ⟨q1, v, q2.alloc _, q3.alloc _, q4, q5⟩
        have HRP := Lib.hid (replace_any w1.heap.size w1.heap.size pv hpv _ s _ f u t _ hga2 (by simpa using hdn) (by omega) (by omega) hbk.2 hs (by omega) (by simp; omega))
        clear hga hga2 hpv hbk hdn
        go_wp2_with fail
        refine HRP.out.mono ?_
        rintro e w3 ⟨rfl, hg3, hB3⟩
        have hB4 := (hB2.alloc hB2.size (.cells #[.int .i64 f, .int .i64 u, .string t] 42)).trans hB3
        have hsz3 := hB3.size
        have hw3 : w1.heap.size < w3.heap.size := by simp at hsz3; omega
        have HG3 : Hid (∃ pv, (pv = .pointer none ∨ pv = selfP w1.heap.size) ∧ GrowAt w1.heap.size w1.heap.size pv (runA s.data.toList (sd.take (k + 1))).1 s (runA s.data.toList (sd.take (k + 1))).2 w3) := by
          refine ⟨_, .inr rfl, ?_⟩
          rw [HE.out]
          simpa [stepA] using hg3
        clear hB3 hB2 cx0 cx1 cx2 hg3 HRP hsz3
        go_wp2
        go_roundw
        case rel => exact ⟨k + 1, by go_num, by omega, HG3, hB4, hw3⟩
        case measure => simp [intOf]; omega
      · obtain rfl : k = sd.length := by omega
        obtain ⟨pv, hpv, hga⟩ := hG.out
        have hbk := HBD.out _ hk
        rw [List.take_length] at hga hbk
        have HRS := Lib.hid (rest_any w1.heap.size w1.heap.size pv hpv _ s _ wr hga hbk.1 hbk.2 hs hB2.size)
        have hB5 := hB1.trans (hB2.mono hB1.size)
        clear hG hga hpv hbk
        go_wp2_with fail
        refine HRS.out.mono ?_
        rintro e w3 ⟨rfl, hB6⟩
        have hB7 := hB5.trans (hB6.mono hB1.size)
        obtain ⟨L, hL⟩ : ∃ L, L = applyA s.data.toList sd := ⟨_, rfl⟩
        change Hid _ at HRS
        rw [show (runA s.data.toList sd).1 ++ List.drop (runA s.data.toList sd).2 s.data.toList = applyA s.data.toList sd from rfl, ← hL]
        have HL := Lib.hid hL
        clear hL
        go_wp2
        go_ret2
        exact ⟨hB7, .inr ⟨H.out.1, sd, H.out.2.1, H.out.2.2.1, .inr ⟨H.out.2.2.2.1, .inr ⟨H.out.2.2.2.2.1, by rw [← HL.out]; rfl⟩⟩⟩⟩

end Go.Proofs.Ytmlkeddiagmedaa
