import Derived.Test.YtiihdbchchnncaaC9
namespace Go.Proofs.Ytiihdbchchnncaa
open Go Go.RowKit Go.Maps Go.WideMaps

theorem Try.info3 : (Try.prog.info? 3).map (fun i => (i.zero, i.size, i.bytes)) = some (some (.int .i64 0), 1, 8) := by kernel_rfl

/-- May one be that follows? -/
def folB (n : Int) (f : FolM) : Bool := numB f.sort n && !(f.not == 0#256)
def followsB (g : GramM) : Bool := g.follow.all (folB g.sorts.length) && onceA (fun a b => a == b) [] (g.follow.map (·.sort))
theorem all_false {α : Type} (p : α → Bool) (l : List α) (i : Nat) (x : α) (hx : l[i]? = some x) (h : p x = false) : l.all p = false := by
  rw [List.all_eq_false]
  exact ⟨x, List.mem_of_getElem? hx, by rw [h]; simp⟩

set_option maxRecDepth 100000 in
set_option maxHeartbeats 2000000 in
theorem followsMay_any (g : GramM) (w : World) (hg : GIn w g) (hf : FitG g) : Calls Try.prog 63 #[gramV g] w fun e w' => e = .returned (.bool (followsB g)) ∧ Below w.heap.size w w' := by
  have HL := Lib.hid hg.follow
  have HF := Lib.hid hf.fol
  have hn := hf.fit.follow
  have HB0 : Hid (Below w.heap.size w (w.alloc (.cells (gramC g) 27))) := Lib.hid ((Below.refl _ _).alloc (Nat.le_refl _) _)
  have HK0 : Hid (Blk (w.alloc (.cells (gramC g) 27)) w.heap.size 27 (gramC g)) := Lib.hid (Blk.new w 27 (gramC g))
  have HN := fun x w' => Lib.hid (num_any x g.sorts.length w')
  obtain ⟨i0, hi, hz0, hz1, hz2⟩ := info_parts Try.info3
  clear hg hf
  unfold gramV
  obtain ⟨n, hln⟩ : ∃ n, n = g.follow.length := ⟨_, rfl⟩
  have HLn := Lib.hid hln
  rw [← hln] at hn
  clear hln
  unfold gramC at *
  rw [← HLn.out] at HB0 HK0 ⊢
  go_enter Try.func63, Try.ntmps63
  go_wp2
  go_loopw [3, 9] (fun v i wr => ∃ (k : Nat), i = .int .i64 k ∧ k ≤ n ∧ Hid (∀ f, f ∈ g.follow.take k → folB g.sorts.length f = true) ∧ Hid (wr.ownsRow (w.heap.size + 1) 3 1 v k (cellsL intC ((g.follow.take k).map (·.sort))))
      ∧ Hid (Blk wr w.heap.size 27 #[.slice g.sa g.sorts.length g.sc, .slice g.pa g.prods.length g.pc, .int .i64 g.start, .slice g.fa g.forbid.length g.fc, .slice g.wa n g.wc]) ∧ Hid (Below w.heap.size w wr))
    (fun _ i _ => n - (intOf i).toNat)
  case atStart => exact ⟨0, rfl, Nat.zero_le _, Lib.hid (fun f h => by simp at h), Lib.hid (World.ownsRow_nil _ _ _ _), HK0, HB0⟩
  case round =>
    clear HB0 HK0
    obtain ⟨k, rfl, hk, hA, hO, hK, hB⟩ := hrel
    obtain ⟨g0, _, _, _, _⟩ : _ ∧ _ ∧ _ ∧ _ ∧ _ := ⟨hK.out.cell 0, hK.out.cell 1, hK.out.cell 2, hK.out.cell 3, hK.out.cell 4⟩
    simp only [List.getElem?_toArray, List.getElem?_cons_zero] at g0
    have hlK := hK.out.lt
    by_cases hlt : k < n
    · obtain ⟨f, hf⟩ : ∃ f, g.follow[k]? = some f := ⟨_, List.getElem?_eq_getElem (by rw [← HLn.out]; exact hlt)⟩
      have HX := Lib.hid hf
      have HT := Lib.hid (take_snoc g.follow k f hf)
      obtain ⟨b, off, hwa, hbw, hc, _⟩ := HL.out k f hf
      rw [hwa] at hK ⊢
      have hc := hc.below hB.out hbw
      have hbr := Nat.lt_of_lt_of_le hbw hB.out.size
      obtain ⟨c0, c1, c2, c3, c4⟩ := Fol_at hc
      have n1 : (k : Int) < (n : Int) := by omega
      have HFB : Hid (folB g.sorts.length f = (numB f.sort g.sorts.length && !(f.not == 0#256))) := Lib.hid rfl
      have HNf := fun w' => Lib.hid ((HN f.sort w').out)
      have HE := fun w' => Lib.hid (eq_zero f.not w')
      obtain ⟨fs, fnot⟩ := f
      dsimp only at *
      clear hc hf
      generalize (fnot == 0#256) = r2 at *
      generalize numB fs g.sorts.length = r1 at *
      have hszr := hB.out.size
      cases r1 with
      | false =>
        have HR : Hid (followsB g = false) := Lib.hid (by unfold followsB; rw [all_false _ _ k _ HX.out HFB.out]; rfl)
        clear HFB HE HN
        go_wp2_with (go_at_call 42; (with_reducible refine (HNf _).out.mono ?_); rintro e w3 ⟨rfl, rfl⟩)
        go_ret
        exact ⟨by rw [HR.out]; try rfl, hB.out.alloc hszr _⟩
      | true =>
        cases r2 with
        | true =>
          have HR : Hid (followsB g = false) := Lib.hid (by unfold followsB; rw [all_false _ _ k _ HX.out HFB.out]; rfl)
          have HE' := fun w' => (HE w').out
          clear HFB HN
          go_wp2_with (go_at_call 42; (with_reducible refine (HNf _).out.mono ?_); rintro e w3 ⟨rfl, rfl⟩)
          go_ret
          exact ⟨by rw [HR.out]; try rfl, hB.out.alloc hszr _⟩
        | false =>
          have HE' := fun w' => (HE w').out
          have hA2 : Hid (∀ f, f ∈ g.follow.take (k + 1) → folB g.sorts.length f = true) := Lib.hid (fun f hf => by
            rw [HT.out] at hf
            rcases List.mem_append.1 hf with h | h
            · exact hA.out f h
            · simp at h; subst h; exact HFB.out)
          have hO1 := Lib.hid ((hO.out.alloc (.cells #[.int .i64 fs, .int .u64 (wdI fnot 0), .int .u64 (wdI fnot 1), .int .u64 (wdI fnot 2), .int .u64 (wdI fnot 3)] 80)).alloc (.cells #[.int .i64 fs] 40))
          have HCN := cells_new (wr.alloc (.cells #[.int .i64 fs, .int .u64 (wdI fnot 0), .int .u64 (wdI fnot 1), .int .u64 (wdI fnot 2), .int .u64 (wdI fnot 3)] 80)) #[.int .i64 fs] 3
          rw [World.size_alloc] at HCN
          have HCN := Lib.hid HCN
          have hsum : k + 1 ≤ 1048576 := by omega
          have hw1 : w.heap.size + 1 ≤ wr.heap.size := hlK
          clear HFB HN HE
          go_wp2_with (first
            | (go_at_call 42; (with_reducible refine (HNf _).out.mono ?_); rintro e w3 ⟨rfl, rfl⟩)
            | (at_builtin; refine wpList_append_own _ rfl (.tmp 26) (.tmp 29) 40 rfl (w.heap.size + 1) 3 i0 (.int .i64 0) 1 8 Try.underlying40 hi hz0 hz1 hz2 rfl (by decide) _ _ _ rfl ((hO.out.alloc _).alloc _) ⟨wr.heap.size + 1, 0, none⟩ 1 1 [.int .i64 fs] rfl rfl HCN.out (by simp [Value.oneCell']) (by unfold maxLen; omega) (by omega) (by simp; omega) ?_; intro v5 w5 hown5 hgrow5 _))
          have hf5 := own_fin ((hO.out.alloc _).alloc _) (((Below.refl (w.heap.size + 1) wr).alloc hw1 _).alloc (by simp; omega) _) hw1 hgrow5
          have hO5 : Hid (w5.ownsRow (w.heap.size + 1) 3 1 v5 (k + 1) (cellsL intC ((g.follow.take (k + 1)).map (·.sort)))) := Lib.hid (by
            rw [HT.out, List.map_append, List.map_cons, List.map_nil, cellsL_snoc]; exact hown5)
          have hK5 := Lib.hid (hK.out.below hf5 (Nat.lt_succ_self _))
          have hB5 := Lib.hid (hB.out.trans (hf5.mono (Nat.le_succ _)))
          clear hf5 hown5 hgrow5 hO hK hB hA g0 c0 c1 c2 c3 c4
          rw [← hwa] at *
          go_wp2
          go_roundw
          case rel => exact ⟨k + 1, by go_num, by omega, hA2, hO5, hK5, hB5⟩
          case measure => simp [intOf]; omega
    · obtain rfl : k = n := by omega
      have HTk : g.follow.take k = g.follow := List.take_of_length_le (by rw [← HLn.out]; exact Nat.le_refl _)
      have hA2 := hA.out
      rw [HTk] at hA2
      have hO2 := hO.out
      rw [HTk] at hO2
      have hall : g.follow.all (folB g.sorts.length) = true := List.all_eq_true.2 hA2
      have hlen : k = (g.follow.map (·.sort)).length := by rw [List.length_map]; exact HLn.out
      have hI : ∀ x, x ∈ g.follow.map (·.sort) → I64 x := fun x hx => by
        obtain ⟨f, hf, rfl⟩ := List.mem_map.1 hx
        exact HF.out f hf
      have HR : Hid (followsB g = onceA (fun a b => a == b) [] (g.follow.map (·.sort))) := Lib.hid (by unfold followsB; rw [hall, Bool.true_and])
      obtain ⟨L, hL⟩ : ∃ L, L = g.follow.map (·.sort) := ⟨_, rfl⟩
      rw [← hL] at hlen hI HR hO2
      rw [hlen] at hO2
      obtain ⟨va, vc, rfl, hrow⟩ := own_row (cs := intC) (G := NoG) (fun _ => rfl) hO2 (fun _ _ => trivial)
      have HO := Lib.hid (onceInt_any va vc L wr hrow (by rw [← hlen]; omega) hI)
      clear hA hA2 hO hO2 hall HTk hrow hL hI
      generalize onceA (fun a b : Int => a == b) [] L = r at *
      clear hlen
      go_wp2_with fail
      with_reducible refine HO.out.mono ?_
      rintro e w3 ⟨rfl, hB3⟩
      have HB3 := Lib.hid (hB.out.trans (hB3.mono hB.out.size))
      clear hB3
      go_wp2
      go_ret
      exact ⟨by rw [HR.out]; try rfl, HB3.out⟩
end Go.Proofs.Ytiihdbchchnncaa
