import Derived.Test.YtmlkeddiagmedaaLow
namespace Go.Proofs.Ytmlkeddiagmedaa
open Go.RowKit Go.Shelf

attribute [local go_sem] Oper.semAt_some

set_option maxRecDepth 100000 in
set_option maxHeartbeats 1000000 in
theorem lineSpans1_low (n : Nat) (hn : 1 ≤ n) (l Bn : Nat) (s : ByteArray) (hs : s.size ≤ 140737488351232) (J Jx : List (Nat × Nat) → World → Prop) (hR : ∀ pre A, J pre A → A.cell? ⟨Bn, 0, none⟩ = some (.string s))
    (hY : ∀ pre x W, pre ++ [x] <+: spansAt s 0 → J pre W → YieldAt Fence.wide (n - 1) Try.prog l #[spanV x] W fun e W' =>
      (e = .returned (.bool true) ∧ J (pre ++ [x]) W') ∨ (e = .returned (.bool false) ∧ Jx (pre ++ [x]) W'))
    (W : World) (h0 : J [] W) :
    CallsIn Fence.wide n Try.prog 48 #[.func (.yield l) #[] #[], .pointer (some ⟨Bn, 0, none⟩)] W fun e W' => (∃ v, e = .returned v) ∧
      ((∃ ys, ys = spansAt s 0 ∧ J ys W') ∨ (∃ pre, pre <+: spansAt s 0 ∧ Jx pre W')) := by
  have hBn := hR _ _ h0
  refine callsIn_of_wp Try.func48 rfl trivial ?_ rfl
  simp only [Try.ntmps48, List.size_toArray, List.length_cons, List.length_nil, Nat.reduceAdd, Nat.reduceSub, Array.replicate_succ, Array.replicate_zero, List.push_toArray, List.append_toArray, List.nil_append, List.cons_append]
  gi_wp2
  gi_loopw [3] (fun p wr => ∃ (pre : List (Nat × Nat)) (c : Nat), p = .int .i64 c ∧ c ≤ s.size ∧ Hid (spansAt s 0 = pre ++ spansAt s c) ∧ J pre wr ∧ wr.cell? ⟨Bn, 0, none⟩ = some (.string s))
    (fun p _ => s.size + 1 - (intOf p).toNat)
  case atStart =>
    exact ⟨[], 0, rfl, Nat.zero_le _, rfl, h0, hBn⟩
  case round =>
    obtain ⟨pre, c, rfl, hc, hx, hJs, hcell⟩ := hrel
    obtain ⟨C, hC, hC0, hC1, hcon⟩ := index_at (s.extract c s.size) wr
    have HC := Lib.hid hC; clear hC
    have Hcon := Lib.hid hcon; clear hcon
    by_cases hneg : C < 0
    · -- the last line
      have hsp : Hid (spansAt s c = [(c, s.size)]) := by
        refine spansAt_no s c hc ?_
        have := HC.out
        rw [extract_drop s c hc] at this
        omega
      obtain ⟨fn, tmps, assign, body, hy, hRd⟩ := hY pre (c, s.size) wr (by rw [hx.out, hsp.out]; exact List.prefix_rfl) hJs
      dsimp only [spanV] at hy
      gi_wp2_with (refine ⟨trivial, ?_⟩; gi_at_call 28; refine (callsIn_wide.2 Hcon.out).mono ?_; rintro e w' ⟨rfl, rfl⟩)
      refine hRd.mono ?_
      rintro e W3 (⟨rfl, hJ3⟩ | ⟨rfl, hJx3⟩)
      · gi_wp2
        go_end0
        exact ⟨⟨_, rfl⟩, .inl ⟨_, by rw [hx.out, hsp.out], hJ3⟩⟩
      · gi_wp2
        go_end0
        exact ⟨⟨_, rfl⟩, .inr ⟨_, by rw [hx.out, hsp.out]; exact List.prefix_rfl, hJx3⟩⟩
    · obtain ⟨i, rfl⟩ := Int.eq_ofNat_of_zero_le (a := C) (by omega)
      have hd := HC.out
      rw [extract_drop s c hc] at hd
      obtain ⟨hlt, hsp⟩ := spansAt_yes s c i hc hd.symm
      clear hd
      have HS := Lib.hid hsp; clear hsp
      obtain ⟨fn, tmps, assign, body, hy, hRd⟩ := hY pre (c, c + i) wr (by rw [hx.out, HS.out]; exact ⟨spansAt s (c + i + 1), by simp⟩) hJs
      dsimp only [spanV] at hy
      simp only [Int.natCast_add] at hy
      gi_wp2_with (refine ⟨trivial, ?_⟩; gi_at_call 28; refine (callsIn_wide.2 Hcon.out).mono ?_; rintro e w' ⟨rfl, rfl⟩)
      refine hRd.mono ?_
      rintro e W3 (⟨rfl, hJ3⟩ | ⟨rfl, hJx3⟩)
      · have hc3 : W3.cell? ⟨Bn, 0, none⟩ = some (.string s) := hR _ _ hJ3
        have hx2 : Hid (spansAt s 0 = (pre ++ [(c, c + i)]) ++ spansAt s (c + i + 1)) := by
          show spansAt s 0 = _
          rw [hx.out, HS.out]; simp
        gi_wp2
        go_roundw
        case rel => exact ⟨pre ++ [(c, c + i)], c + i + 1, by go_num, by omega, hx2, hJ3, hc3⟩
        case measure => simp [intOf]; omega
      · gi_wp2
        refine bodyPost_ret (results_none rfl _ _ _) rfl ?_
        exact ⟨⟨_, rfl⟩, .inr ⟨pre ++ [(c, c + i)], by rw [hx.out, HS.out]; simp, hJx3⟩⟩


/-- lineSpans' iterator as one that may have memory of its own. -/
theorem spans_low (n : Nat) (hn : 1 ≤ n) (Bn : Nat) (s : ByteArray) (hs : s.size ≤ 140737488351232) (w : World) :
    LowSeq n Try.prog 48 #[.pointer (some ⟨Bn, 0, none⟩)] (fun x => #[spanV x]) (spansAt s 0) (fun A => A.cell? ⟨Bn, 0, none⟩ = some (.string s)) w := by
  intro l J Jx W hW hR hJ hJx hY h0
  refine (lineSpans1_low n hn l Bn s hs J Jx hR (fun pre x W1 hp hj => (hY pre x W1 hp hj).mono ?_) W h0).mono ?_
  · rintro e W3 (⟨h1, h2, _⟩ | ⟨h1, h2, _⟩)
    · exact .inl ⟨h1, h2⟩
    · exact .inr ⟨h1, h2⟩
  · rintro e W3 ⟨h1, ⟨ys, rfl, h2⟩ | h2⟩
    · exact ⟨h1, .inl h2⟩
    · exact ⟨h1, .inr h2⟩
end Go.Proofs.Ytmlkeddiagmedaa
