import Derived.Test.YtegmoeeeomjkgaaDoorV2
namespace Go.Proofs.YtegmoeeeomjkgaaDoor
open Go Go.RowKit Go.Vals

theorem bl1 (a b c : BS) : (a &&& b) &&& c = a &&& (b &&& c) := BitVec.and_assoc _ _ _
theorem bl2 (a b c : BS) : (a &&& ~~~b) &&& (a &&& ~~~c) = a &&& ~~~(b ||| c) := by
  refine bs_ext fun j hj => ?_
  simp only [BitVec.getLsbD_or, BitVec.getLsbD_and, BitVec.getLsbD_not, hj, decide_true, Bool.true_and]
  cases a.getLsbD j <;> cases b.getLsbD j <;> cases c.getLsbD j <;> rfl
theorem bl3 (a b c : BS) : (a ||| b) &&& (a ||| c) = a ||| (b &&& c) := by
  refine bs_ext fun j _ => ?_
  simp only [BitVec.getLsbD_or, BitVec.getLsbD_and]
  cases a.getLsbD j <;> cases b.getLsbD j <;> cases c.getLsbD j <;> rfl
theorem bl4 (a b : BS) : b &&& a = a &&& b := BitVec.and_comm _ _
theorem bl5 (a b c : BS) : (a &&& b) ||| (a &&& c) = a &&& (b ||| c) := by
  refine bs_ext fun j _ => ?_
  simp only [BitVec.getLsbD_or, BitVec.getLsbD_and]
  cases a.getLsbD j <;> cases b.getLsbD j <;> cases c.getLsbD j <;> rfl
theorem bl6 (a b c : BS) : (a ||| b) ||| c = a ||| (b ||| c) := BitVec.or_assoc _ _ _
theorem bl7 (a b : BS) : b ||| a = a ||| b := BitVec.or_comm _ _

set_option maxRecDepth 100000 in
set_option maxHeartbeats 20000000 in
theorem lawLawsA (a b c : BS) (w : World) (hG : Glob w) (hp : (a &&& b == a) = false) : Calls Tryd.prog 8 #[vset a, vset b, vset c] w fun e w' => e = .returned (.bool true) ∧ Below w.heap.size w w' := by
  have hab : (a == b) = false := by
    cases h : (a == b) with
    | false => rfl
    | true => rw [beq_iff_eq] at h; subst h; simp at hp
  have hN : ∀ w : World, Below w.heap.size w w := fun w => Below.refl _ w
  have hst := Lib.hid (st_start w a b c)
  have key : ∀ W', St w W' a b c → Below w.heap.size w W' := fun W' h => h.1
  unfold vset
  go_enter Tryd.func8, Tryd.ntmps8
  simp only [List.append_eq, List.cons_append, List.nil_append]
  go_wp2
  refine wp_region_vals (N := fun W W' => Below W.heap.size W W') (S := fun W => St w W a b c) [107] (fun _ v W => ∃ n, v = .slice (some ⟨n, 0, none⟩) 3 3 ∧ Blk W n 29 (cells3 a b c))
    [.func (.func 40) #[] #[], vset a, vset b, vset (a ||| b), .func (.func 40) #[] #[], vset b, vset a, vset (a ||| b), .bool true, .bool true, .func (.func 26) #[] #[], vset a, vset b, vset (a &&& b), .func (.func 26) #[] #[], vset b, vset a, vset (a &&& b), .bool true, .bool true, .bool true, .func (.func 40) #[] #[], vset a, .func (.func 40) #[] #[], vset b, vset c, vset (b ||| c), vset (a ||| (b ||| c)), .func (.func 40) #[] #[], .func (.func 40) #[] #[], vset a, vset b, vset (a ||| b), vset c, vset (a ||| (b ||| c)), .bool true, .bool true, .bool true, .func (.func 26) #[] #[], vset a, .func (.func 26) #[] #[], vset b, vset c, vset (b &&& c), vset (a &&& (b &&& c)), .func (.func 26) #[] #[], .func (.func 26) #[] #[], vset a, vset b, vset (a &&& b), vset c, vset (a &&& (b &&& c)), .bool true, .bool true, .bool true, .func (.func 26) #[] #[], vset a, .func (.func 40) #[] #[], vset b, vset c, vset (b ||| c), vset (a &&& (b ||| c)), .func (.func 40) #[] #[], .func (.func 26) #[] #[], vset a, vset b, vset (a &&& b), .func (.func 26) #[] #[], vset a, vset c, vset (a &&& c), vset (a &&& (b ||| c)), .bool true, .bool true, .bool true, .func (.func 40) #[] #[], vset a, .func (.func 26) #[] #[], vset b, vset c, vset (b &&& c), vset (a ||| (b &&& c)), .func (.func 26) #[] #[], .func (.func 40) #[] #[], vset a, vset b, vset (a ||| b), .func (.func 40) #[] #[], vset a, vset c, vset (a ||| c), vset (a ||| (b &&& c)), .bool true, .bool true, .bool true, vset a, vset b, vset c, undef, vset (a ||| (b ||| c)), .func (.func 40) #[] #[], vset a, .func (.func 40) #[] #[], vset b, vset c, vset (b ||| c), vset (a ||| (b ||| c)), .bool true, .bool true, .bool true, vset a, .func (.func 40) #[] #[], vset b, vset c, vset (b ||| c), vset (a &&& ~~~(b ||| c)), .func (.func 26) #[] #[], vset a, vset b, vset (a &&& ~~~b), vset a, vset c, vset (a &&& ~~~c), vset (a &&& ~~~(b ||| c)), .bool true, .bool true, .bool true, vset a, vset b, .bool false, .bool true, .bool true, undef, undef, undef, undef, .bool true, .bool true, undef, undef, undef, .bool true, .bool true, .bool true, vset a, vset b, .bool false, .bool false, undef, undef, undef, .bool false, vset a, vset b, .bool false, .bool true, .bool true, .bool true, .bool true, .bool true, .bool true]
    #[vset a, vset b, vset c, .pointer (some ⟨w.heap.size, 0, none⟩), .pointer (some ⟨w.heap.size + 1, 0, none⟩), .pointer (some ⟨w.heap.size + 1 + 1, 0, none⟩), .bool true, .func (.func 26) #[] #[], .func (.func 40) #[] #[], .func (.func 40) #[] #[], vset a, vset b, vset (a ||| b), .func (.func 40) #[] #[], vset b, vset a, vset (a ||| b), .bool true, .bool true, .func (.func 26) #[] #[], vset a, vset b, vset (a &&& b), .func (.func 26) #[] #[], vset b, vset a, vset (a &&& b), .bool true, .bool true, .bool true, .func (.func 40) #[] #[], vset a, .func (.func 40) #[] #[], vset b, vset c, vset (b ||| c), vset (a ||| (b ||| c)), .func (.func 40) #[] #[], .func (.func 40) #[] #[], vset a, vset b, vset (a ||| b), vset c, vset (a ||| (b ||| c)), .bool true, .bool true, .bool true, .func (.func 26) #[] #[], vset a, .func (.func 26) #[] #[], vset b, vset c, vset (b &&& c), vset (a &&& (b &&& c)), .func (.func 26) #[] #[], .func (.func 26) #[] #[], vset a, vset b, vset (a &&& b), vset c, vset (a &&& (b &&& c)), .bool true, .bool true, .bool true, .func (.func 26) #[] #[], vset a, .func (.func 40) #[] #[], vset b, vset c, vset (b ||| c), vset (a &&& (b ||| c)), .func (.func 40) #[] #[], .func (.func 26) #[] #[], vset a, vset b, vset (a &&& b), .func (.func 26) #[] #[], vset a, vset c, vset (a &&& c), vset (a &&& (b ||| c)), .bool true, .bool true, .bool true, .func (.func 40) #[] #[], vset a, .func (.func 26) #[] #[], vset b, vset c, vset (b &&& c), vset (a ||| (b &&& c)), .func (.func 26) #[] #[], .func (.func 40) #[] #[], vset a, vset b, vset (a ||| b), .func (.func 40) #[] #[], vset a, vset c, vset (a ||| c), vset (a ||| (b &&& c)), .bool true, .bool true, .bool true, vset a, vset b, vset c, undef, vset (a ||| (b ||| c)), .func (.func 40) #[] #[], vset a, .func (.func 40) #[] #[], vset b, vset c, vset (b ||| c), vset (a ||| (b ||| c)), .bool true, .bool true, .bool true, vset a, .func (.func 40) #[] #[], vset b, vset c, vset (b ||| c), vset (a &&& ~~~(b ||| c)), .func (.func 26) #[] #[], vset a, vset b, vset (a &&& ~~~b), vset a, vset c, vset (a &&& ~~~c), vset (a &&& ~~~(b ||| c)), .bool true, .bool true, .bool true, vset a, vset b, .bool false, .bool true, .bool true, undef, undef, undef, undef, .bool true, .bool true, undef, undef, undef, .bool true, .bool true, .bool true, vset a, vset b, .bool false, .bool false, undef, undef, undef, .bool false, vset a, vset b, .bool false, .bool true, .bool true, .bool true, .bool true, .bool true]
    rfl (by kernel_rfl) (by kernel_rfl) (by kernel_rfl) (by kernel_rfl) hN hst.out.drew (fun W W' h hB => h.next hB) (fun _ _ v W W' h hB => h.imp fun n h => ⟨h.1, h.2.below hB h.2.lt⟩) ?_ ?_
  rotate_left
  · intro T w' hT hS hk
    obtain ⟨v, hv, hK⟩ := hk 6 (by simp)
    have h6 : T[6]? = some (.bool true) := by
      rcases hK with ⟨h, _⟩ | ⟨_, h⟩
      · exact absurd h (by decide)
      · rw [hv, ← h]; kernel_rfl
    have hfin := Lib.hid hS.1
    clear hk hS hK hv hT hst key
    go_wp2
    have h6' : T.getD 6 undef = .bool true := by rw [Array.getD_eq_getD_getElem?, h6]; rfl
    go_ret
    refine ⟨?_, hfin.out⟩
    show Ending.returned (T.getD 6 undef) = _
    rw [h6']
  refine Each.val 9 (.func (.func 40) #[] #[]) (by kernel_rfl) (by kernel_rfl) (by kernel_rfl) hN (fun _ _ _ => by kernel_rfl) ?_
  refine Each.val 10 (vset a) (by kernel_rfl) (by kernel_rfl) (by kernel_rfl) hN (fun _ hS _ => ex_load rfl (by kernel_rfl) hS.2.1) ?_
  refine Each.val 11 (vset b) (by kernel_rfl) (by kernel_rfl) (by kernel_rfl) hN (fun _ hS _ => ex_load rfl (by kernel_rfl) hS.2.2.1) ?_
  refine Each.call 12 (vset (a ||| b)) 40 #[vset a, vset b] (by kernel_rfl) (by kernel_rfl) (by kernel_rfl) (fun _ _ => by kernel_rfl) (fun W _ => jcE (by first | with_reducible rfl | exact bl1 a b c | exact bl2 a b c | exact bl3 a b c | exact bl4 a b | exact bl5 a b c | exact bl6 a b c | exact bl7 a b) W) ?_
  refine Each.val 13 (.func (.func 40) #[] #[]) (by kernel_rfl) (by kernel_rfl) (by kernel_rfl) hN (fun _ _ _ => by kernel_rfl) ?_
  refine Each.val 14 (vset b) (by kernel_rfl) (by kernel_rfl) (by kernel_rfl) hN (fun _ hS _ => ex_load rfl (by kernel_rfl) hS.2.2.1) ?_
  refine Each.val 15 (vset a) (by kernel_rfl) (by kernel_rfl) (by kernel_rfl) hN (fun _ hS _ => ex_load rfl (by kernel_rfl) hS.2.1) ?_
  refine Each.call 16 (vset (a ||| b)) 40 #[vset b, vset a] (by kernel_rfl) (by kernel_rfl) (by kernel_rfl) (fun _ _ => by kernel_rfl) (fun W _ => jcE (by first | with_reducible rfl | exact bl1 a b c | exact bl2 a b c | exact bl3 a b c | exact bl4 a b | exact bl5 a b c | exact bl6 a b c | exact bl7 a b) W) ?_
  refine Each.val 17 (.bool true) (by kernel_rfl) (by kernel_rfl) (by kernel_rfl) hN (fun _ _ _ => ex_eqT (s := a ||| b) (t := a ||| b) rfl (by kernel_rfl) (by kernel_rfl) (by simp)) ?_
  refine Each.val 18 (.bool true) (by kernel_rfl) (by kernel_rfl) (by kernel_rfl) hN (fun _ _ _ => by kernel_rfl) ?_
  refine Each.val 19 (.func (.func 26) #[] #[]) (by kernel_rfl) (by kernel_rfl) (by kernel_rfl) hN (fun _ _ _ => by kernel_rfl) ?_
  refine Each.val 20 (vset a) (by kernel_rfl) (by kernel_rfl) (by kernel_rfl) hN (fun _ hS _ => ex_load rfl (by kernel_rfl) hS.2.1) ?_
  refine Each.val 21 (vset b) (by kernel_rfl) (by kernel_rfl) (by kernel_rfl) hN (fun _ hS _ => ex_load rfl (by kernel_rfl) hS.2.2.1) ?_
  refine Each.call 22 (vset (a &&& b)) 26 #[vset a, vset b] (by kernel_rfl) (by kernel_rfl) (by kernel_rfl) (fun _ _ => by kernel_rfl) (fun W _ => mcE (by first | with_reducible rfl | exact bl1 a b c | exact bl2 a b c | exact bl3 a b c | exact bl4 a b | exact bl5 a b c | exact bl6 a b c | exact bl7 a b) W) ?_
  refine Each.val 23 (.func (.func 26) #[] #[]) (by kernel_rfl) (by kernel_rfl) (by kernel_rfl) hN (fun _ _ _ => by kernel_rfl) ?_
  refine Each.val 24 (vset b) (by kernel_rfl) (by kernel_rfl) (by kernel_rfl) hN (fun _ hS _ => ex_load rfl (by kernel_rfl) hS.2.2.1) ?_
  refine Each.val 25 (vset a) (by kernel_rfl) (by kernel_rfl) (by kernel_rfl) hN (fun _ hS _ => ex_load rfl (by kernel_rfl) hS.2.1) ?_
  refine Each.call 26 (vset (a &&& b)) 26 #[vset b, vset a] (by kernel_rfl) (by kernel_rfl) (by kernel_rfl) (fun _ _ => by kernel_rfl) (fun W _ => mcE (by first | with_reducible rfl | exact bl1 a b c | exact bl2 a b c | exact bl3 a b c | exact bl4 a b | exact bl5 a b c | exact bl6 a b c | exact bl7 a b) W) ?_
  refine Each.val 27 (.bool true) (by kernel_rfl) (by kernel_rfl) (by kernel_rfl) hN (fun _ _ _ => ex_eqT (s := a &&& b) (t := a &&& b) rfl (by kernel_rfl) (by kernel_rfl) (by simp)) ?_
  refine Each.val 28 (.bool true) (by kernel_rfl) (by kernel_rfl) (by kernel_rfl) hN (fun _ _ _ => by kernel_rfl) ?_
  refine Each.val 29 (.bool true) (by kernel_rfl) (by kernel_rfl) (by kernel_rfl) hN (fun _ _ _ => by kernel_rfl) ?_
  refine Each.val 30 (.func (.func 40) #[] #[]) (by kernel_rfl) (by kernel_rfl) (by kernel_rfl) hN (fun _ _ _ => by kernel_rfl) ?_
  refine Each.val 31 (vset a) (by kernel_rfl) (by kernel_rfl) (by kernel_rfl) hN (fun _ hS _ => ex_load rfl (by kernel_rfl) hS.2.1) ?_
  refine Each.val 32 (.func (.func 40) #[] #[]) (by kernel_rfl) (by kernel_rfl) (by kernel_rfl) hN (fun _ _ _ => by kernel_rfl) ?_
  refine Each.val 33 (vset b) (by kernel_rfl) (by kernel_rfl) (by kernel_rfl) hN (fun _ hS _ => ex_load rfl (by kernel_rfl) hS.2.2.1) ?_
  refine Each.val 34 (vset c) (by kernel_rfl) (by kernel_rfl) (by kernel_rfl) hN (fun _ hS _ => ex_load rfl (by kernel_rfl) hS.2.2.2) ?_
  refine Each.call 35 (vset (b ||| c)) 40 #[vset b, vset c] (by kernel_rfl) (by kernel_rfl) (by kernel_rfl) (fun _ _ => by kernel_rfl) (fun W _ => jcE (by first | with_reducible rfl | exact bl1 a b c | exact bl2 a b c | exact bl3 a b c | exact bl4 a b | exact bl5 a b c | exact bl6 a b c | exact bl7 a b) W) ?_
  refine Each.call 36 (vset (a ||| (b ||| c))) 40 #[vset a, vset (b ||| c)] (by kernel_rfl) (by kernel_rfl) (by kernel_rfl) (fun _ _ => by kernel_rfl) (fun W _ => jcE (by first | with_reducible rfl | exact bl1 a b c | exact bl2 a b c | exact bl3 a b c | exact bl4 a b | exact bl5 a b c | exact bl6 a b c | exact bl7 a b) W) ?_
  refine Each.val 37 (.func (.func 40) #[] #[]) (by kernel_rfl) (by kernel_rfl) (by kernel_rfl) hN (fun _ _ _ => by kernel_rfl) ?_
  refine Each.val 38 (.func (.func 40) #[] #[]) (by kernel_rfl) (by kernel_rfl) (by kernel_rfl) hN (fun _ _ _ => by kernel_rfl) ?_
  refine Each.val 39 (vset a) (by kernel_rfl) (by kernel_rfl) (by kernel_rfl) hN (fun _ hS _ => ex_load rfl (by kernel_rfl) hS.2.1) ?_
  refine Each.val 40 (vset b) (by kernel_rfl) (by kernel_rfl) (by kernel_rfl) hN (fun _ hS _ => ex_load rfl (by kernel_rfl) hS.2.2.1) ?_
  refine Each.call 41 (vset (a ||| b)) 40 #[vset a, vset b] (by kernel_rfl) (by kernel_rfl) (by kernel_rfl) (fun _ _ => by kernel_rfl) (fun W _ => jcE (by first | with_reducible rfl | exact bl1 a b c | exact bl2 a b c | exact bl3 a b c | exact bl4 a b | exact bl5 a b c | exact bl6 a b c | exact bl7 a b) W) ?_
  refine Each.val 42 (vset c) (by kernel_rfl) (by kernel_rfl) (by kernel_rfl) hN (fun _ hS _ => ex_load rfl (by kernel_rfl) hS.2.2.2) ?_
  refine Each.call 43 (vset (a ||| (b ||| c))) 40 #[vset (a ||| b), vset c] (by kernel_rfl) (by kernel_rfl) (by kernel_rfl) (fun _ _ => by kernel_rfl) (fun W _ => jcE (by first | with_reducible rfl | exact bl1 a b c | exact bl2 a b c | exact bl3 a b c | exact bl4 a b | exact bl5 a b c | exact bl6 a b c | exact bl7 a b) W) ?_
  refine Each.val 44 (.bool true) (by kernel_rfl) (by kernel_rfl) (by kernel_rfl) hN (fun _ _ _ => ex_eqT (s := a ||| (b ||| c)) (t := a ||| (b ||| c)) rfl (by kernel_rfl) (by kernel_rfl) (by simp)) ?_
  refine Each.val 45 (.bool true) (by kernel_rfl) (by kernel_rfl) (by kernel_rfl) hN (fun _ _ _ => by kernel_rfl) ?_
  refine Each.val 46 (.bool true) (by kernel_rfl) (by kernel_rfl) (by kernel_rfl) hN (fun _ _ _ => by kernel_rfl) ?_
  refine Each.val 47 (.func (.func 26) #[] #[]) (by kernel_rfl) (by kernel_rfl) (by kernel_rfl) hN (fun _ _ _ => by kernel_rfl) ?_
  refine Each.val 48 (vset a) (by kernel_rfl) (by kernel_rfl) (by kernel_rfl) hN (fun _ hS _ => ex_load rfl (by kernel_rfl) hS.2.1) ?_
  refine Each.val 49 (.func (.func 26) #[] #[]) (by kernel_rfl) (by kernel_rfl) (by kernel_rfl) hN (fun _ _ _ => by kernel_rfl) ?_
  refine Each.val 50 (vset b) (by kernel_rfl) (by kernel_rfl) (by kernel_rfl) hN (fun _ hS _ => ex_load rfl (by kernel_rfl) hS.2.2.1) ?_
  refine Each.val 51 (vset c) (by kernel_rfl) (by kernel_rfl) (by kernel_rfl) hN (fun _ hS _ => ex_load rfl (by kernel_rfl) hS.2.2.2) ?_
  refine Each.call 52 (vset (b &&& c)) 26 #[vset b, vset c] (by kernel_rfl) (by kernel_rfl) (by kernel_rfl) (fun _ _ => by kernel_rfl) (fun W _ => mcE (by first | with_reducible rfl | exact bl1 a b c | exact bl2 a b c | exact bl3 a b c | exact bl4 a b | exact bl5 a b c | exact bl6 a b c | exact bl7 a b) W) ?_
  refine Each.call 53 (vset (a &&& (b &&& c))) 26 #[vset a, vset (b &&& c)] (by kernel_rfl) (by kernel_rfl) (by kernel_rfl) (fun _ _ => by kernel_rfl) (fun W _ => mcE (by first | with_reducible rfl | exact bl1 a b c | exact bl2 a b c | exact bl3 a b c | exact bl4 a b | exact bl5 a b c | exact bl6 a b c | exact bl7 a b) W) ?_
  refine Each.val 54 (.func (.func 26) #[] #[]) (by kernel_rfl) (by kernel_rfl) (by kernel_rfl) hN (fun _ _ _ => by kernel_rfl) ?_
  refine Each.val 55 (.func (.func 26) #[] #[]) (by kernel_rfl) (by kernel_rfl) (by kernel_rfl) hN (fun _ _ _ => by kernel_rfl) ?_
  refine Each.val 56 (vset a) (by kernel_rfl) (by kernel_rfl) (by kernel_rfl) hN (fun _ hS _ => ex_load rfl (by kernel_rfl) hS.2.1) ?_
  refine Each.val 57 (vset b) (by kernel_rfl) (by kernel_rfl) (by kernel_rfl) hN (fun _ hS _ => ex_load rfl (by kernel_rfl) hS.2.2.1) ?_
  refine Each.call 58 (vset (a &&& b)) 26 #[vset a, vset b] (by kernel_rfl) (by kernel_rfl) (by kernel_rfl) (fun _ _ => by kernel_rfl) (fun W _ => mcE (by first | with_reducible rfl | exact bl1 a b c | exact bl2 a b c | exact bl3 a b c | exact bl4 a b | exact bl5 a b c | exact bl6 a b c | exact bl7 a b) W) ?_
  refine Each.val 59 (vset c) (by kernel_rfl) (by kernel_rfl) (by kernel_rfl) hN (fun _ hS _ => ex_load rfl (by kernel_rfl) hS.2.2.2) ?_
  refine Each.call 60 (vset (a &&& (b &&& c))) 26 #[vset (a &&& b), vset c] (by kernel_rfl) (by kernel_rfl) (by kernel_rfl) (fun _ _ => by kernel_rfl) (fun W _ => mcE (by first | with_reducible rfl | exact bl1 a b c | exact bl2 a b c | exact bl3 a b c | exact bl4 a b | exact bl5 a b c | exact bl6 a b c | exact bl7 a b) W) ?_
  refine Each.val 61 (.bool true) (by kernel_rfl) (by kernel_rfl) (by kernel_rfl) hN (fun _ _ _ => ex_eqT (s := a &&& (b &&& c)) (t := a &&& (b &&& c)) rfl (by kernel_rfl) (by kernel_rfl) (by simp)) ?_
  refine Each.val 62 (.bool true) (by kernel_rfl) (by kernel_rfl) (by kernel_rfl) hN (fun _ _ _ => by kernel_rfl) ?_
  refine Each.val 63 (.bool true) (by kernel_rfl) (by kernel_rfl) (by kernel_rfl) hN (fun _ _ _ => by kernel_rfl) ?_
  refine Each.val 64 (.func (.func 26) #[] #[]) (by kernel_rfl) (by kernel_rfl) (by kernel_rfl) hN (fun _ _ _ => by kernel_rfl) ?_
  refine Each.val 65 (vset a) (by kernel_rfl) (by kernel_rfl) (by kernel_rfl) hN (fun _ hS _ => ex_load rfl (by kernel_rfl) hS.2.1) ?_
  refine Each.val 66 (.func (.func 40) #[] #[]) (by kernel_rfl) (by kernel_rfl) (by kernel_rfl) hN (fun _ _ _ => by kernel_rfl) ?_
  refine Each.val 67 (vset b) (by kernel_rfl) (by kernel_rfl) (by kernel_rfl) hN (fun _ hS _ => ex_load rfl (by kernel_rfl) hS.2.2.1) ?_
  refine Each.val 68 (vset c) (by kernel_rfl) (by kernel_rfl) (by kernel_rfl) hN (fun _ hS _ => ex_load rfl (by kernel_rfl) hS.2.2.2) ?_
  refine Each.call 69 (vset (b ||| c)) 40 #[vset b, vset c] (by kernel_rfl) (by kernel_rfl) (by kernel_rfl) (fun _ _ => by kernel_rfl) (fun W _ => jcE (by first | with_reducible rfl | exact bl1 a b c | exact bl2 a b c | exact bl3 a b c | exact bl4 a b | exact bl5 a b c | exact bl6 a b c | exact bl7 a b) W) ?_
  refine Each.call 70 (vset (a &&& (b ||| c))) 26 #[vset a, vset (b ||| c)] (by kernel_rfl) (by kernel_rfl) (by kernel_rfl) (fun _ _ => by kernel_rfl) (fun W _ => mcE (by first | with_reducible rfl | exact bl1 a b c | exact bl2 a b c | exact bl3 a b c | exact bl4 a b | exact bl5 a b c | exact bl6 a b c | exact bl7 a b) W) ?_
  refine Each.val 71 (.func (.func 40) #[] #[]) (by kernel_rfl) (by kernel_rfl) (by kernel_rfl) hN (fun _ _ _ => by kernel_rfl) ?_
  refine Each.val 72 (.func (.func 26) #[] #[]) (by kernel_rfl) (by kernel_rfl) (by kernel_rfl) hN (fun _ _ _ => by kernel_rfl) ?_
  refine Each.val 73 (vset a) (by kernel_rfl) (by kernel_rfl) (by kernel_rfl) hN (fun _ hS _ => ex_load rfl (by kernel_rfl) hS.2.1) ?_
  refine Each.val 74 (vset b) (by kernel_rfl) (by kernel_rfl) (by kernel_rfl) hN (fun _ hS _ => ex_load rfl (by kernel_rfl) hS.2.2.1) ?_
  refine Each.call 75 (vset (a &&& b)) 26 #[vset a, vset b] (by kernel_rfl) (by kernel_rfl) (by kernel_rfl) (fun _ _ => by kernel_rfl) (fun W _ => mcE (by first | with_reducible rfl | exact bl1 a b c | exact bl2 a b c | exact bl3 a b c | exact bl4 a b | exact bl5 a b c | exact bl6 a b c | exact bl7 a b) W) ?_
  refine Each.val 76 (.func (.func 26) #[] #[]) (by kernel_rfl) (by kernel_rfl) (by kernel_rfl) hN (fun _ _ _ => by kernel_rfl) ?_
  refine Each.val 77 (vset a) (by kernel_rfl) (by kernel_rfl) (by kernel_rfl) hN (fun _ hS _ => ex_load rfl (by kernel_rfl) hS.2.1) ?_
  refine Each.val 78 (vset c) (by kernel_rfl) (by kernel_rfl) (by kernel_rfl) hN (fun _ hS _ => ex_load rfl (by kernel_rfl) hS.2.2.2) ?_
  refine Each.call 79 (vset (a &&& c)) 26 #[vset a, vset c] (by kernel_rfl) (by kernel_rfl) (by kernel_rfl) (fun _ _ => by kernel_rfl) (fun W _ => mcE (by first | with_reducible rfl | exact bl1 a b c | exact bl2 a b c | exact bl3 a b c | exact bl4 a b | exact bl5 a b c | exact bl6 a b c | exact bl7 a b) W) ?_
  refine Each.call 80 (vset (a &&& (b ||| c))) 40 #[vset (a &&& b), vset (a &&& c)] (by kernel_rfl) (by kernel_rfl) (by kernel_rfl) (fun _ _ => by kernel_rfl) (fun W _ => jcE (by first | with_reducible rfl | exact bl1 a b c | exact bl2 a b c | exact bl3 a b c | exact bl4 a b | exact bl5 a b c | exact bl6 a b c | exact bl7 a b) W) ?_
  refine Each.val 81 (.bool true) (by kernel_rfl) (by kernel_rfl) (by kernel_rfl) hN (fun _ _ _ => ex_eqT (s := a &&& (b ||| c)) (t := a &&& (b ||| c)) rfl (by kernel_rfl) (by kernel_rfl) (by simp)) ?_
  refine Each.val 82 (.bool true) (by kernel_rfl) (by kernel_rfl) (by kernel_rfl) hN (fun _ _ _ => by kernel_rfl) ?_
  refine Each.val 83 (.bool true) (by kernel_rfl) (by kernel_rfl) (by kernel_rfl) hN (fun _ _ _ => by kernel_rfl) ?_
  refine Each.val 84 (.func (.func 40) #[] #[]) (by kernel_rfl) (by kernel_rfl) (by kernel_rfl) hN (fun _ _ _ => by kernel_rfl) ?_
  refine Each.val 85 (vset a) (by kernel_rfl) (by kernel_rfl) (by kernel_rfl) hN (fun _ hS _ => ex_load rfl (by kernel_rfl) hS.2.1) ?_
  refine Each.val 86 (.func (.func 26) #[] #[]) (by kernel_rfl) (by kernel_rfl) (by kernel_rfl) hN (fun _ _ _ => by kernel_rfl) ?_
  refine Each.val 87 (vset b) (by kernel_rfl) (by kernel_rfl) (by kernel_rfl) hN (fun _ hS _ => ex_load rfl (by kernel_rfl) hS.2.2.1) ?_
  refine Each.val 88 (vset c) (by kernel_rfl) (by kernel_rfl) (by kernel_rfl) hN (fun _ hS _ => ex_load rfl (by kernel_rfl) hS.2.2.2) ?_
  refine Each.call 89 (vset (b &&& c)) 26 #[vset b, vset c] (by kernel_rfl) (by kernel_rfl) (by kernel_rfl) (fun _ _ => by kernel_rfl) (fun W _ => mcE (by first | with_reducible rfl | exact bl1 a b c | exact bl2 a b c | exact bl3 a b c | exact bl4 a b | exact bl5 a b c | exact bl6 a b c | exact bl7 a b) W) ?_
  refine Each.call 90 (vset (a ||| (b &&& c))) 40 #[vset a, vset (b &&& c)] (by kernel_rfl) (by kernel_rfl) (by kernel_rfl) (fun _ _ => by kernel_rfl) (fun W _ => jcE (by first | with_reducible rfl | exact bl1 a b c | exact bl2 a b c | exact bl3 a b c | exact bl4 a b | exact bl5 a b c | exact bl6 a b c | exact bl7 a b) W) ?_
  refine Each.val 91 (.func (.func 26) #[] #[]) (by kernel_rfl) (by kernel_rfl) (by kernel_rfl) hN (fun _ _ _ => by kernel_rfl) ?_
  refine Each.val 92 (.func (.func 40) #[] #[]) (by kernel_rfl) (by kernel_rfl) (by kernel_rfl) hN (fun _ _ _ => by kernel_rfl) ?_
  refine Each.val 93 (vset a) (by kernel_rfl) (by kernel_rfl) (by kernel_rfl) hN (fun _ hS _ => ex_load rfl (by kernel_rfl) hS.2.1) ?_
  refine Each.val 94 (vset b) (by kernel_rfl) (by kernel_rfl) (by kernel_rfl) hN (fun _ hS _ => ex_load rfl (by kernel_rfl) hS.2.2.1) ?_
  refine Each.call 95 (vset (a ||| b)) 40 #[vset a, vset b] (by kernel_rfl) (by kernel_rfl) (by kernel_rfl) (fun _ _ => by kernel_rfl) (fun W _ => jcE (by first | with_reducible rfl | exact bl1 a b c | exact bl2 a b c | exact bl3 a b c | exact bl4 a b | exact bl5 a b c | exact bl6 a b c | exact bl7 a b) W) ?_
  refine Each.val 96 (.func (.func 40) #[] #[]) (by kernel_rfl) (by kernel_rfl) (by kernel_rfl) hN (fun _ _ _ => by kernel_rfl) ?_
  refine Each.val 97 (vset a) (by kernel_rfl) (by kernel_rfl) (by kernel_rfl) hN (fun _ hS _ => ex_load rfl (by kernel_rfl) hS.2.1) ?_
  refine Each.val 98 (vset c) (by kernel_rfl) (by kernel_rfl) (by kernel_rfl) hN (fun _ hS _ => ex_load rfl (by kernel_rfl) hS.2.2.2) ?_
  refine Each.call 99 (vset (a ||| c)) 40 #[vset a, vset c] (by kernel_rfl) (by kernel_rfl) (by kernel_rfl) (fun _ _ => by kernel_rfl) (fun W _ => jcE (by first | with_reducible rfl | exact bl1 a b c | exact bl2 a b c | exact bl3 a b c | exact bl4 a b | exact bl5 a b c | exact bl6 a b c | exact bl7 a b) W) ?_
  refine Each.call 100 (vset (a ||| (b &&& c))) 26 #[vset (a ||| b), vset (a ||| c)] (by kernel_rfl) (by kernel_rfl) (by kernel_rfl) (fun _ _ => by kernel_rfl) (fun W _ => mcE (by first | with_reducible rfl | exact bl1 a b c | exact bl2 a b c | exact bl3 a b c | exact bl4 a b | exact bl5 a b c | exact bl6 a b c | exact bl7 a b) W) ?_
  refine Each.val 101 (.bool true) (by kernel_rfl) (by kernel_rfl) (by kernel_rfl) hN (fun _ _ _ => ex_eqT (s := a ||| (b &&& c)) (t := a ||| (b &&& c)) rfl (by kernel_rfl) (by kernel_rfl) (by simp)) ?_
  refine Each.val 102 (.bool true) (by kernel_rfl) (by kernel_rfl) (by kernel_rfl) hN (fun _ _ _ => by kernel_rfl) ?_
  refine Each.val 103 (.bool true) (by kernel_rfl) (by kernel_rfl) (by kernel_rfl) hN (fun _ _ _ => by kernel_rfl) ?_
  refine Each.val 104 (vset a) (by kernel_rfl) (by kernel_rfl) (by kernel_rfl) hN (fun _ hS _ => ex_load rfl (by kernel_rfl) hS.2.1) ?_
  refine Each.val 105 (vset b) (by kernel_rfl) (by kernel_rfl) (by kernel_rfl) hN (fun _ hS _ => ex_load rfl (by kernel_rfl) hS.2.2.1) ?_
  refine Each.val 106 (vset c) (by kernel_rfl) (by kernel_rfl) (by kernel_rfl) hN (fun _ hS _ => ex_load rfl (by kernel_rfl) hS.2.2.2) ?_
  refine Each.makes 107 (by kernel_rfl) (by kernel_rfl) (by kernel_rfl) (by kernel_rfl) (by kernel_rfl) (fun W hS _ => ⟨_, _, ex_slice3 (a := a) (b := b) (c := c) rfl (by kernel_rfl) (by kernel_rfl) (by kernel_rfl), (Below.refl _ W).alloc (Nat.le_refl _) _, _, rfl, Blk.new W 29 _⟩) ?_
  refine Each.callLoose 108 107 (vset (a ||| (b ||| c))) 20 (by kernel_rfl) (by kernel_rfl) (by kernel_rfl) (by kernel_rfl) (by kernel_rfl) (by kernel_rfl) (by kernel_rfl) (by kernel_rfl) (fun _ _ => by kernel_rfl) (fun W x _ hx => u3_call hx) ?_
  refine Each.val 109 (.func (.func 40) #[] #[]) (by kernel_rfl) (by kernel_rfl) (by kernel_rfl) hN (fun _ _ _ => by kernel_rfl) ?_
  refine Each.val 110 (vset a) (by kernel_rfl) (by kernel_rfl) (by kernel_rfl) hN (fun _ hS _ => ex_load rfl (by kernel_rfl) hS.2.1) ?_
  refine Each.val 111 (.func (.func 40) #[] #[]) (by kernel_rfl) (by kernel_rfl) (by kernel_rfl) hN (fun _ _ _ => by kernel_rfl) ?_
  refine Each.val 112 (vset b) (by kernel_rfl) (by kernel_rfl) (by kernel_rfl) hN (fun _ hS _ => ex_load rfl (by kernel_rfl) hS.2.2.1) ?_
  refine Each.val 113 (vset c) (by kernel_rfl) (by kernel_rfl) (by kernel_rfl) hN (fun _ hS _ => ex_load rfl (by kernel_rfl) hS.2.2.2) ?_
  refine Each.call 114 (vset (b ||| c)) 40 #[vset b, vset c] (by kernel_rfl) (by kernel_rfl) (by kernel_rfl) (fun _ _ => by kernel_rfl) (fun W _ => jcE (by first | with_reducible rfl | exact bl1 a b c | exact bl2 a b c | exact bl3 a b c | exact bl4 a b | exact bl5 a b c | exact bl6 a b c | exact bl7 a b) W) ?_
  refine Each.call 115 (vset (a ||| (b ||| c))) 40 #[vset a, vset (b ||| c)] (by kernel_rfl) (by kernel_rfl) (by kernel_rfl) (fun _ _ => by kernel_rfl) (fun W _ => jcE (by first | with_reducible rfl | exact bl1 a b c | exact bl2 a b c | exact bl3 a b c | exact bl4 a b | exact bl5 a b c | exact bl6 a b c | exact bl7 a b) W) ?_
  refine Each.val 116 (.bool true) (by kernel_rfl) (by kernel_rfl) (by kernel_rfl) hN (fun _ _ _ => ex_eqT (s := a ||| (b ||| c)) (t := a ||| (b ||| c)) rfl (by kernel_rfl) (by kernel_rfl) (by simp)) ?_
  refine Each.val 117 (.bool true) (by kernel_rfl) (by kernel_rfl) (by kernel_rfl) hN (fun _ _ _ => by kernel_rfl) ?_
  refine Each.val 118 (.bool true) (by kernel_rfl) (by kernel_rfl) (by kernel_rfl) hN (fun _ _ _ => by kernel_rfl) ?_
  refine Each.val 119 (vset a) (by kernel_rfl) (by kernel_rfl) (by kernel_rfl) hN (fun _ hS _ => ex_load rfl (by kernel_rfl) hS.2.1) ?_
  refine Each.val 120 (.func (.func 40) #[] #[]) (by kernel_rfl) (by kernel_rfl) (by kernel_rfl) hN (fun _ _ _ => by kernel_rfl) ?_
  refine Each.val 121 (vset b) (by kernel_rfl) (by kernel_rfl) (by kernel_rfl) hN (fun _ hS _ => ex_load rfl (by kernel_rfl) hS.2.2.1) ?_
  refine Each.val 122 (vset c) (by kernel_rfl) (by kernel_rfl) (by kernel_rfl) hN (fun _ hS _ => ex_load rfl (by kernel_rfl) hS.2.2.2) ?_
  refine Each.call 123 (vset (b ||| c)) 40 #[vset b, vset c] (by kernel_rfl) (by kernel_rfl) (by kernel_rfl) (fun _ _ => by kernel_rfl) (fun W _ => jcE (by first | with_reducible rfl | exact bl1 a b c | exact bl2 a b c | exact bl3 a b c | exact bl4 a b | exact bl5 a b c | exact bl6 a b c | exact bl7 a b) W) ?_
  refine Each.call 124 (vset (a &&& ~~~(b ||| c))) 28 #[vset a, vset (b ||| c)] (by kernel_rfl) (by kernel_rfl) (by kernel_rfl) (fun _ _ => by kernel_rfl) (fun W _ => wcE (by first | with_reducible rfl | exact bl1 a b c | exact bl2 a b c | exact bl3 a b c | exact bl4 a b | exact bl5 a b c | exact bl6 a b c | exact bl7 a b) W) ?_
  refine Each.val 125 (.func (.func 26) #[] #[]) (by kernel_rfl) (by kernel_rfl) (by kernel_rfl) hN (fun _ _ _ => by kernel_rfl) ?_
  refine Each.val 126 (vset a) (by kernel_rfl) (by kernel_rfl) (by kernel_rfl) hN (fun _ hS _ => ex_load rfl (by kernel_rfl) hS.2.1) ?_
  refine Each.val 127 (vset b) (by kernel_rfl) (by kernel_rfl) (by kernel_rfl) hN (fun _ hS _ => ex_load rfl (by kernel_rfl) hS.2.2.1) ?_
  refine Each.call 128 (vset (a &&& ~~~b)) 28 #[vset a, vset b] (by kernel_rfl) (by kernel_rfl) (by kernel_rfl) (fun _ _ => by kernel_rfl) (fun W _ => wcE (by first | with_reducible rfl | exact bl1 a b c | exact bl2 a b c | exact bl3 a b c | exact bl4 a b | exact bl5 a b c | exact bl6 a b c | exact bl7 a b) W) ?_
  refine Each.val 129 (vset a) (by kernel_rfl) (by kernel_rfl) (by kernel_rfl) hN (fun _ hS _ => ex_load rfl (by kernel_rfl) hS.2.1) ?_
  refine Each.val 130 (vset c) (by kernel_rfl) (by kernel_rfl) (by kernel_rfl) hN (fun _ hS _ => ex_load rfl (by kernel_rfl) hS.2.2.2) ?_
  refine Each.call 131 (vset (a &&& ~~~c)) 28 #[vset a, vset c] (by kernel_rfl) (by kernel_rfl) (by kernel_rfl) (fun _ _ => by kernel_rfl) (fun W _ => wcE (by first | with_reducible rfl | exact bl1 a b c | exact bl2 a b c | exact bl3 a b c | exact bl4 a b | exact bl5 a b c | exact bl6 a b c | exact bl7 a b) W) ?_
  refine Each.call 132 (vset (a &&& ~~~(b ||| c))) 26 #[vset (a &&& ~~~b), vset (a &&& ~~~c)] (by kernel_rfl) (by kernel_rfl) (by kernel_rfl) (fun _ _ => by kernel_rfl) (fun W _ => mcE (by first | with_reducible rfl | exact bl1 a b c | exact bl2 a b c | exact bl3 a b c | exact bl4 a b | exact bl5 a b c | exact bl6 a b c | exact bl7 a b) W) ?_
  refine Each.val 133 (.bool true) (by kernel_rfl) (by kernel_rfl) (by kernel_rfl) hN (fun _ _ _ => ex_eqT (s := a &&& ~~~(b ||| c)) (t := a &&& ~~~(b ||| c)) rfl (by kernel_rfl) (by kernel_rfl) (by simp)) ?_
  refine Each.val 134 (.bool true) (by kernel_rfl) (by kernel_rfl) (by kernel_rfl) hN (fun _ _ _ => by kernel_rfl) ?_
  refine Each.val 135 (.bool true) (by kernel_rfl) (by kernel_rfl) (by kernel_rfl) hN (fun _ _ _ => by kernel_rfl) ?_
  refine Each.val 136 (vset a) (by kernel_rfl) (by kernel_rfl) (by kernel_rfl) hN (fun _ hS _ => ex_load rfl (by kernel_rfl) hS.2.1) ?_
  refine Each.val 137 (vset b) (by kernel_rfl) (by kernel_rfl) (by kernel_rfl) hN (fun _ hS _ => ex_load rfl (by kernel_rfl) hS.2.2.1) ?_
  refine Each.call 138 (.bool false) 30 #[vset a, vset b] (by kernel_rfl) (by kernel_rfl) (by kernel_rfl) (fun _ _ => by kernel_rfl) (fun W _ => icE hp W) ?_
  refine Each.val 139 (.bool true) (by kernel_rfl) (by kernel_rfl) (by kernel_rfl) hN (fun _ _ _ => by kernel_rfl) ?_
  refine Each.val 140 (.bool true) (by kernel_rfl) (by kernel_rfl) (by kernel_rfl) hN (fun _ _ _ => by kernel_rfl) ?_
  refine Each.off 141 (by kernel_rfl) (by kernel_rfl) (by kernel_rfl) ?_
  refine Each.off 142 (by kernel_rfl) (by kernel_rfl) (by kernel_rfl) ?_
  refine Each.off 143 (by kernel_rfl) (by kernel_rfl) (by kernel_rfl) ?_
  refine Each.off 144 (by kernel_rfl) (by kernel_rfl) (by kernel_rfl) ?_
  refine Each.val 145 (.bool true) (by kernel_rfl) (by kernel_rfl) (by kernel_rfl) hN (fun _ _ _ => by kernel_rfl) ?_
  refine Each.val 146 (.bool true) (by kernel_rfl) (by kernel_rfl) (by kernel_rfl) hN (fun _ _ _ => by kernel_rfl) ?_
  refine Each.off 147 (by kernel_rfl) (by kernel_rfl) (by kernel_rfl) ?_
  refine Each.off 148 (by kernel_rfl) (by kernel_rfl) (by kernel_rfl) ?_
  refine Each.off 149 (by kernel_rfl) (by kernel_rfl) (by kernel_rfl) ?_
  refine Each.val 150 (.bool true) (by kernel_rfl) (by kernel_rfl) (by kernel_rfl) hN (fun _ _ _ => by kernel_rfl) ?_
  refine Each.val 151 (.bool true) (by kernel_rfl) (by kernel_rfl) (by kernel_rfl) hN (fun _ _ _ => by kernel_rfl) ?_
  refine Each.val 152 (.bool true) (by kernel_rfl) (by kernel_rfl) (by kernel_rfl) hN (fun _ _ _ => by kernel_rfl) ?_
  refine Each.val 153 (vset a) (by kernel_rfl) (by kernel_rfl) (by kernel_rfl) hN (fun _ hS _ => ex_load rfl (by kernel_rfl) hS.2.1) ?_
  refine Each.val 154 (vset b) (by kernel_rfl) (by kernel_rfl) (by kernel_rfl) hN (fun _ hS _ => ex_load rfl (by kernel_rfl) hS.2.2.1) ?_
  refine Each.call 155 (.bool false) 30 #[vset a, vset b] (by kernel_rfl) (by kernel_rfl) (by kernel_rfl) (fun _ _ => by kernel_rfl) (fun W _ => icE hp W) ?_
  refine Each.val 156 (.bool false) (by kernel_rfl) (by kernel_rfl) (by kernel_rfl) hN (fun _ _ _ => by kernel_rfl) ?_
  refine Each.off 157 (by kernel_rfl) (by kernel_rfl) (by kernel_rfl) ?_
  refine Each.off 158 (by kernel_rfl) (by kernel_rfl) (by kernel_rfl) ?_
  refine Each.off 159 (by kernel_rfl) (by kernel_rfl) (by kernel_rfl) ?_
  refine Each.val 160 (.bool false) (by kernel_rfl) (by kernel_rfl) (by kernel_rfl) hN (fun _ _ _ => by kernel_rfl) ?_
  refine Each.val 161 (vset a) (by kernel_rfl) (by kernel_rfl) (by kernel_rfl) hN (fun _ hS _ => ex_load rfl (by kernel_rfl) hS.2.1) ?_
  refine Each.val 162 (vset b) (by kernel_rfl) (by kernel_rfl) (by kernel_rfl) hN (fun _ hS _ => ex_load rfl (by kernel_rfl) hS.2.2.1) ?_
  refine Each.val 163 (.bool false) (by kernel_rfl) (by kernel_rfl) (by kernel_rfl) hN (fun _ _ _ => ex_eqT (s := a) (t := b) rfl (by kernel_rfl) (by kernel_rfl) hab) ?_
  refine Each.val 164 (.bool true) (by kernel_rfl) (by kernel_rfl) (by kernel_rfl) hN (fun _ _ _ => ex_eqBT (s := false) (t := false) rfl (by kernel_rfl) (by kernel_rfl) (by simp)) ?_
  refine Each.val 165 (.bool true) (by kernel_rfl) (by kernel_rfl) (by kernel_rfl) hN (fun _ _ _ => by kernel_rfl) ?_
  refine Each.val 166 (.bool true) (by kernel_rfl) (by kernel_rfl) (by kernel_rfl) hN (fun _ _ _ => by kernel_rfl) ?_
  refine Each.call 167 (.bool true) 10 #[] (by kernel_rfl) (by kernel_rfl) (by kernel_rfl) (fun _ _ => by kernel_rfl) (fun W hS => works_any _ (hG.below (Nat.le_refl _) hS.1)) ?_
  refine Each.val 168 (.bool true) (by kernel_rfl) (by kernel_rfl) (by kernel_rfl) hN (fun _ _ _ => by kernel_rfl) ?_
  refine Each.val 6 (.bool true) (by kernel_rfl) (by kernel_rfl) (by kernel_rfl) hN (fun _ _ _ => by kernel_rfl) ?_
  exact trivial

set_option maxRecDepth 100000 in
set_option maxHeartbeats 20000000 in
theorem lawLawsB (a b c : BS) (w : World) (hG : Glob w) (hp : (a &&& b == a) = true) (hr : (b &&& c == b) = false) : Calls Tryd.prog 8 #[vset a, vset b, vset c] w fun e w' => e = .returned (.bool true) ∧ Below w.heap.size w w' := by
  obtain ⟨q, hq⟩ : ∃ q, (b &&& a == b) = q := ⟨_, rfl⟩
  have hab : (a == b) = q := by
    rw [← hq]
    rw [beq_iff_eq] at hp
    by_cases h : a = b
    · subst h; simp
    · have : ¬ (b &&& a = b) := fun h' => h (by rw [← h', BitVec.and_comm, hp])
      rw [beq_eq_false_iff_ne.2 h, beq_eq_false_iff_ne.2 this]
  have hN : ∀ w : World, Below w.heap.size w w := fun w => Below.refl _ w
  have hst := Lib.hid (st_start w a b c)
  have key : ∀ W', St w W' a b c → Below w.heap.size w W' := fun W' h => h.1
  unfold vset
  go_enter Tryd.func8, Tryd.ntmps8
  simp only [List.append_eq, List.cons_append, List.nil_append]
  go_wp2
  refine wp_region_vals (N := fun W W' => Below W.heap.size W W') (S := fun W => St w W a b c) [107] (fun _ v W => ∃ n, v = .slice (some ⟨n, 0, none⟩) 3 3 ∧ Blk W n 29 (cells3 a b c))
    [.func (.func 40) #[] #[], vset a, vset b, vset (a ||| b), .func (.func 40) #[] #[], vset b, vset a, vset (a ||| b), .bool true, .bool true, .func (.func 26) #[] #[], vset a, vset b, vset (a &&& b), .func (.func 26) #[] #[], vset b, vset a, vset (a &&& b), .bool true, .bool true, .bool true, .func (.func 40) #[] #[], vset a, .func (.func 40) #[] #[], vset b, vset c, vset (b ||| c), vset (a ||| (b ||| c)), .func (.func 40) #[] #[], .func (.func 40) #[] #[], vset a, vset b, vset (a ||| b), vset c, vset (a ||| (b ||| c)), .bool true, .bool true, .bool true, .func (.func 26) #[] #[], vset a, .func (.func 26) #[] #[], vset b, vset c, vset (b &&& c), vset (a &&& (b &&& c)), .func (.func 26) #[] #[], .func (.func 26) #[] #[], vset a, vset b, vset (a &&& b), vset c, vset (a &&& (b &&& c)), .bool true, .bool true, .bool true, .func (.func 26) #[] #[], vset a, .func (.func 40) #[] #[], vset b, vset c, vset (b ||| c), vset (a &&& (b ||| c)), .func (.func 40) #[] #[], .func (.func 26) #[] #[], vset a, vset b, vset (a &&& b), .func (.func 26) #[] #[], vset a, vset c, vset (a &&& c), vset (a &&& (b ||| c)), .bool true, .bool true, .bool true, .func (.func 40) #[] #[], vset a, .func (.func 26) #[] #[], vset b, vset c, vset (b &&& c), vset (a ||| (b &&& c)), .func (.func 26) #[] #[], .func (.func 40) #[] #[], vset a, vset b, vset (a ||| b), .func (.func 40) #[] #[], vset a, vset c, vset (a ||| c), vset (a ||| (b &&& c)), .bool true, .bool true, .bool true, vset a, vset b, vset c, undef, vset (a ||| (b ||| c)), .func (.func 40) #[] #[], vset a, .func (.func 40) #[] #[], vset b, vset c, vset (b ||| c), vset (a ||| (b ||| c)), .bool true, .bool true, .bool true, vset a, .func (.func 40) #[] #[], vset b, vset c, vset (b ||| c), vset (a &&& ~~~(b ||| c)), .func (.func 26) #[] #[], vset a, vset b, vset (a &&& ~~~b), vset a, vset c, vset (a &&& ~~~c), vset (a &&& ~~~(b ||| c)), .bool true, .bool true, .bool true, vset a, vset b, .bool true, .bool false, .bool false, vset b, vset c, .bool false, .bool true, .bool true, .bool true, undef, undef, undef, .bool true, .bool true, .bool true, vset a, vset b, .bool true, .bool true, vset b, vset a, .bool q, .bool q, vset a, vset b, .bool q, .bool true, .bool true, .bool true, .bool true, .bool true, .bool true]
    #[vset a, vset b, vset c, .pointer (some ⟨w.heap.size, 0, none⟩), .pointer (some ⟨w.heap.size + 1, 0, none⟩), .pointer (some ⟨w.heap.size + 1 + 1, 0, none⟩), .bool true, .func (.func 26) #[] #[], .func (.func 40) #[] #[], .func (.func 40) #[] #[], vset a, vset b, vset (a ||| b), .func (.func 40) #[] #[], vset b, vset a, vset (a ||| b), .bool true, .bool true, .func (.func 26) #[] #[], vset a, vset b, vset (a &&& b), .func (.func 26) #[] #[], vset b, vset a, vset (a &&& b), .bool true, .bool true, .bool true, .func (.func 40) #[] #[], vset a, .func (.func 40) #[] #[], vset b, vset c, vset (b ||| c), vset (a ||| (b ||| c)), .func (.func 40) #[] #[], .func (.func 40) #[] #[], vset a, vset b, vset (a ||| b), vset c, vset (a ||| (b ||| c)), .bool true, .bool true, .bool true, .func (.func 26) #[] #[], vset a, .func (.func 26) #[] #[], vset b, vset c, vset (b &&& c), vset (a &&& (b &&& c)), .func (.func 26) #[] #[], .func (.func 26) #[] #[], vset a, vset b, vset (a &&& b), vset c, vset (a &&& (b &&& c)), .bool true, .bool true, .bool true, .func (.func 26) #[] #[], vset a, .func (.func 40) #[] #[], vset b, vset c, vset (b ||| c), vset (a &&& (b ||| c)), .func (.func 40) #[] #[], .func (.func 26) #[] #[], vset a, vset b, vset (a &&& b), .func (.func 26) #[] #[], vset a, vset c, vset (a &&& c), vset (a &&& (b ||| c)), .bool true, .bool true, .bool true, .func (.func 40) #[] #[], vset a, .func (.func 26) #[] #[], vset b, vset c, vset (b &&& c), vset (a ||| (b &&& c)), .func (.func 26) #[] #[], .func (.func 40) #[] #[], vset a, vset b, vset (a ||| b), .func (.func 40) #[] #[], vset a, vset c, vset (a ||| c), vset (a ||| (b &&& c)), .bool true, .bool true, .bool true, vset a, vset b, vset c, undef, vset (a ||| (b ||| c)), .func (.func 40) #[] #[], vset a, .func (.func 40) #[] #[], vset b, vset c, vset (b ||| c), vset (a ||| (b ||| c)), .bool true, .bool true, .bool true, vset a, .func (.func 40) #[] #[], vset b, vset c, vset (b ||| c), vset (a &&& ~~~(b ||| c)), .func (.func 26) #[] #[], vset a, vset b, vset (a &&& ~~~b), vset a, vset c, vset (a &&& ~~~c), vset (a &&& ~~~(b ||| c)), .bool true, .bool true, .bool true, vset a, vset b, .bool true, .bool false, .bool false, vset b, vset c, .bool false, .bool true, .bool true, .bool true, undef, undef, undef, .bool true, .bool true, .bool true, vset a, vset b, .bool true, .bool true, vset b, vset a, .bool q, .bool q, vset a, vset b, .bool q, .bool true, .bool true, .bool true, .bool true, .bool true]
    rfl (by kernel_rfl) (by kernel_rfl) (by kernel_rfl) (by kernel_rfl) hN hst.out.drew (fun W W' h hB => h.next hB) (fun _ _ v W W' h hB => h.imp fun n h => ⟨h.1, h.2.below hB h.2.lt⟩) ?_ ?_
  rotate_left
  · intro T w' hT hS hk
    obtain ⟨v, hv, hK⟩ := hk 6 (by simp)
    have h6 : T[6]? = some (.bool true) := by
      rcases hK with ⟨h, _⟩ | ⟨_, h⟩
      · exact absurd h (by decide)
      · rw [hv, ← h]; kernel_rfl
    have hfin := Lib.hid hS.1
    clear hk hS hK hv hT hst key
    go_wp2
    have h6' : T.getD 6 undef = .bool true := by rw [Array.getD_eq_getD_getElem?, h6]; rfl
    go_ret
    refine ⟨?_, hfin.out⟩
    show Ending.returned (T.getD 6 undef) = _
    rw [h6']
  refine Each.val 9 (.func (.func 40) #[] #[]) (by kernel_rfl) (by kernel_rfl) (by kernel_rfl) hN (fun _ _ _ => by kernel_rfl) ?_
  refine Each.val 10 (vset a) (by kernel_rfl) (by kernel_rfl) (by kernel_rfl) hN (fun _ hS _ => ex_load rfl (by kernel_rfl) hS.2.1) ?_
  refine Each.val 11 (vset b) (by kernel_rfl) (by kernel_rfl) (by kernel_rfl) hN (fun _ hS _ => ex_load rfl (by kernel_rfl) hS.2.2.1) ?_
  refine Each.call 12 (vset (a ||| b)) 40 #[vset a, vset b] (by kernel_rfl) (by kernel_rfl) (by kernel_rfl) (fun _ _ => by kernel_rfl) (fun W _ => jcE (by first | with_reducible rfl | exact bl1 a b c | exact bl2 a b c | exact bl3 a b c | exact bl4 a b | exact bl5 a b c | exact bl6 a b c | exact bl7 a b) W) ?_
  refine Each.val 13 (.func (.func 40) #[] #[]) (by kernel_rfl) (by kernel_rfl) (by kernel_rfl) hN (fun _ _ _ => by kernel_rfl) ?_
  refine Each.val 14 (vset b) (by kernel_rfl) (by kernel_rfl) (by kernel_rfl) hN (fun _ hS _ => ex_load rfl (by kernel_rfl) hS.2.2.1) ?_
  refine Each.val 15 (vset a) (by kernel_rfl) (by kernel_rfl) (by kernel_rfl) hN (fun _ hS _ => ex_load rfl (by kernel_rfl) hS.2.1) ?_
  refine Each.call 16 (vset (a ||| b)) 40 #[vset b, vset a] (by kernel_rfl) (by kernel_rfl) (by kernel_rfl) (fun _ _ => by kernel_rfl) (fun W _ => jcE (by first | with_reducible rfl | exact bl1 a b c | exact bl2 a b c | exact bl3 a b c | exact bl4 a b | exact bl5 a b c | exact bl6 a b c | exact bl7 a b) W) ?_
  refine Each.val 17 (.bool true) (by kernel_rfl) (by kernel_rfl) (by kernel_rfl) hN (fun _ _ _ => ex_eqT (s := a ||| b) (t := a ||| b) rfl (by kernel_rfl) (by kernel_rfl) (by simp)) ?_
  refine Each.val 18 (.bool true) (by kernel_rfl) (by kernel_rfl) (by kernel_rfl) hN (fun _ _ _ => by kernel_rfl) ?_
  refine Each.val 19 (.func (.func 26) #[] #[]) (by kernel_rfl) (by kernel_rfl) (by kernel_rfl) hN (fun _ _ _ => by kernel_rfl) ?_
  refine Each.val 20 (vset a) (by kernel_rfl) (by kernel_rfl) (by kernel_rfl) hN (fun _ hS _ => ex_load rfl (by kernel_rfl) hS.2.1) ?_
  refine Each.val 21 (vset b) (by kernel_rfl) (by kernel_rfl) (by kernel_rfl) hN (fun _ hS _ => ex_load rfl (by kernel_rfl) hS.2.2.1) ?_
  refine Each.call 22 (vset (a &&& b)) 26 #[vset a, vset b] (by kernel_rfl) (by kernel_rfl) (by kernel_rfl) (fun _ _ => by kernel_rfl) (fun W _ => mcE (by first | with_reducible rfl | exact bl1 a b c | exact bl2 a b c | exact bl3 a b c | exact bl4 a b | exact bl5 a b c | exact bl6 a b c | exact bl7 a b) W) ?_
  refine Each.val 23 (.func (.func 26) #[] #[]) (by kernel_rfl) (by kernel_rfl) (by kernel_rfl) hN (fun _ _ _ => by kernel_rfl) ?_
  refine Each.val 24 (vset b) (by kernel_rfl) (by kernel_rfl) (by kernel_rfl) hN (fun _ hS _ => ex_load rfl (by kernel_rfl) hS.2.2.1) ?_
  refine Each.val 25 (vset a) (by kernel_rfl) (by kernel_rfl) (by kernel_rfl) hN (fun _ hS _ => ex_load rfl (by kernel_rfl) hS.2.1) ?_
  refine Each.call 26 (vset (a &&& b)) 26 #[vset b, vset a] (by kernel_rfl) (by kernel_rfl) (by kernel_rfl) (fun _ _ => by kernel_rfl) (fun W _ => mcE (by first | with_reducible rfl | exact bl1 a b c | exact bl2 a b c | exact bl3 a b c | exact bl4 a b | exact bl5 a b c | exact bl6 a b c | exact bl7 a b) W) ?_
  refine Each.val 27 (.bool true) (by kernel_rfl) (by kernel_rfl) (by kernel_rfl) hN (fun _ _ _ => ex_eqT (s := a &&& b) (t := a &&& b) rfl (by kernel_rfl) (by kernel_rfl) (by simp)) ?_
  refine Each.val 28 (.bool true) (by kernel_rfl) (by kernel_rfl) (by kernel_rfl) hN (fun _ _ _ => by kernel_rfl) ?_
  refine Each.val 29 (.bool true) (by kernel_rfl) (by kernel_rfl) (by kernel_rfl) hN (fun _ _ _ => by kernel_rfl) ?_
  refine Each.val 30 (.func (.func 40) #[] #[]) (by kernel_rfl) (by kernel_rfl) (by kernel_rfl) hN (fun _ _ _ => by kernel_rfl) ?_
  refine Each.val 31 (vset a) (by kernel_rfl) (by kernel_rfl) (by kernel_rfl) hN (fun _ hS _ => ex_load rfl (by kernel_rfl) hS.2.1) ?_
  refine Each.val 32 (.func (.func 40) #[] #[]) (by kernel_rfl) (by kernel_rfl) (by kernel_rfl) hN (fun _ _ _ => by kernel_rfl) ?_
  refine Each.val 33 (vset b) (by kernel_rfl) (by kernel_rfl) (by kernel_rfl) hN (fun _ hS _ => ex_load rfl (by kernel_rfl) hS.2.2.1) ?_
  refine Each.val 34 (vset c) (by kernel_rfl) (by kernel_rfl) (by kernel_rfl) hN (fun _ hS _ => ex_load rfl (by kernel_rfl) hS.2.2.2) ?_
  refine Each.call 35 (vset (b ||| c)) 40 #[vset b, vset c] (by kernel_rfl) (by kernel_rfl) (by kernel_rfl) (fun _ _ => by kernel_rfl) (fun W _ => jcE (by first | with_reducible rfl | exact bl1 a b c | exact bl2 a b c | exact bl3 a b c | exact bl4 a b | exact bl5 a b c | exact bl6 a b c | exact bl7 a b) W) ?_
  refine Each.call 36 (vset (a ||| (b ||| c))) 40 #[vset a, vset (b ||| c)] (by kernel_rfl) (by kernel_rfl) (by kernel_rfl) (fun _ _ => by kernel_rfl) (fun W _ => jcE (by first | with_reducible rfl | exact bl1 a b c | exact bl2 a b c | exact bl3 a b c | exact bl4 a b | exact bl5 a b c | exact bl6 a b c | exact bl7 a b) W) ?_
  refine Each.val 37 (.func (.func 40) #[] #[]) (by kernel_rfl) (by kernel_rfl) (by kernel_rfl) hN (fun _ _ _ => by kernel_rfl) ?_
  refine Each.val 38 (.func (.func 40) #[] #[]) (by kernel_rfl) (by kernel_rfl) (by kernel_rfl) hN (fun _ _ _ => by kernel_rfl) ?_
  refine Each.val 39 (vset a) (by kernel_rfl) (by kernel_rfl) (by kernel_rfl) hN (fun _ hS _ => ex_load rfl (by kernel_rfl) hS.2.1) ?_
  refine Each.val 40 (vset b) (by kernel_rfl) (by kernel_rfl) (by kernel_rfl) hN (fun _ hS _ => ex_load rfl (by kernel_rfl) hS.2.2.1) ?_
  refine Each.call 41 (vset (a ||| b)) 40 #[vset a, vset b] (by kernel_rfl) (by kernel_rfl) (by kernel_rfl) (fun _ _ => by kernel_rfl) (fun W _ => jcE (by first | with_reducible rfl | exact bl1 a b c | exact bl2 a b c | exact bl3 a b c | exact bl4 a b | exact bl5 a b c | exact bl6 a b c | exact bl7 a b) W) ?_
  refine Each.val 42 (vset c) (by kernel_rfl) (by kernel_rfl) (by kernel_rfl) hN (fun _ hS _ => ex_load rfl (by kernel_rfl) hS.2.2.2) ?_
  refine Each.call 43 (vset (a ||| (b ||| c))) 40 #[vset (a ||| b), vset c] (by kernel_rfl) (by kernel_rfl) (by kernel_rfl) (fun _ _ => by kernel_rfl) (fun W _ => jcE (by first | with_reducible rfl | exact bl1 a b c | exact bl2 a b c | exact bl3 a b c | exact bl4 a b | exact bl5 a b c | exact bl6 a b c | exact bl7 a b) W) ?_
  refine Each.val 44 (.bool true) (by kernel_rfl) (by kernel_rfl) (by kernel_rfl) hN (fun _ _ _ => ex_eqT (s := a ||| (b ||| c)) (t := a ||| (b ||| c)) rfl (by kernel_rfl) (by kernel_rfl) (by simp)) ?_
  refine Each.val 45 (.bool true) (by kernel_rfl) (by kernel_rfl) (by kernel_rfl) hN (fun _ _ _ => by kernel_rfl) ?_
  refine Each.val 46 (.bool true) (by kernel_rfl) (by kernel_rfl) (by kernel_rfl) hN (fun _ _ _ => by kernel_rfl) ?_
  refine Each.val 47 (.func (.func 26) #[] #[]) (by kernel_rfl) (by kernel_rfl) (by kernel_rfl) hN (fun _ _ _ => by kernel_rfl) ?_
  refine Each.val 48 (vset a) (by kernel_rfl) (by kernel_rfl) (by kernel_rfl) hN (fun _ hS _ => ex_load rfl (by kernel_rfl) hS.2.1) ?_
  refine Each.val 49 (.func (.func 26) #[] #[]) (by kernel_rfl) (by kernel_rfl) (by kernel_rfl) hN (fun _ _ _ => by kernel_rfl) ?_
  refine Each.val 50 (vset b) (by kernel_rfl) (by kernel_rfl) (by kernel_rfl) hN (fun _ hS _ => ex_load rfl (by kernel_rfl) hS.2.2.1) ?_
  refine Each.val 51 (vset c) (by kernel_rfl) (by kernel_rfl) (by kernel_rfl) hN (fun _ hS _ => ex_load rfl (by kernel_rfl) hS.2.2.2) ?_
  refine Each.call 52 (vset (b &&& c)) 26 #[vset b, vset c] (by kernel_rfl) (by kernel_rfl) (by kernel_rfl) (fun _ _ => by kernel_rfl) (fun W _ => mcE (by first | with_reducible rfl | exact bl1 a b c | exact bl2 a b c | exact bl3 a b c | exact bl4 a b | exact bl5 a b c | exact bl6 a b c | exact bl7 a b) W) ?_
  refine Each.call 53 (vset (a &&& (b &&& c))) 26 #[vset a, vset (b &&& c)] (by kernel_rfl) (by kernel_rfl) (by kernel_rfl) (fun _ _ => by kernel_rfl) (fun W _ => mcE (by first | with_reducible rfl | exact bl1 a b c | exact bl2 a b c | exact bl3 a b c | exact bl4 a b | exact bl5 a b c | exact bl6 a b c | exact bl7 a b) W) ?_
  refine Each.val 54 (.func (.func 26) #[] #[]) (by kernel_rfl) (by kernel_rfl) (by kernel_rfl) hN (fun _ _ _ => by kernel_rfl) ?_
  refine Each.val 55 (.func (.func 26) #[] #[]) (by kernel_rfl) (by kernel_rfl) (by kernel_rfl) hN (fun _ _ _ => by kernel_rfl) ?_
  refine Each.val 56 (vset a) (by kernel_rfl) (by kernel_rfl) (by kernel_rfl) hN (fun _ hS _ => ex_load rfl (by kernel_rfl) hS.2.1) ?_
  refine Each.val 57 (vset b) (by kernel_rfl) (by kernel_rfl) (by kernel_rfl) hN (fun _ hS _ => ex_load rfl (by kernel_rfl) hS.2.2.1) ?_
  refine Each.call 58 (vset (a &&& b)) 26 #[vset a, vset b] (by kernel_rfl) (by kernel_rfl) (by kernel_rfl) (fun _ _ => by kernel_rfl) (fun W _ => mcE (by first | with_reducible rfl | exact bl1 a b c | exact bl2 a b c | exact bl3 a b c | exact bl4 a b | exact bl5 a b c | exact bl6 a b c | exact bl7 a b) W) ?_
  refine Each.val 59 (vset c) (by kernel_rfl) (by kernel_rfl) (by kernel_rfl) hN (fun _ hS _ => ex_load rfl (by kernel_rfl) hS.2.2.2) ?_
  refine Each.call 60 (vset (a &&& (b &&& c))) 26 #[vset (a &&& b), vset c] (by kernel_rfl) (by kernel_rfl) (by kernel_rfl) (fun _ _ => by kernel_rfl) (fun W _ => mcE (by first | with_reducible rfl | exact bl1 a b c | exact bl2 a b c | exact bl3 a b c | exact bl4 a b | exact bl5 a b c | exact bl6 a b c | exact bl7 a b) W) ?_
  refine Each.val 61 (.bool true) (by kernel_rfl) (by kernel_rfl) (by kernel_rfl) hN (fun _ _ _ => ex_eqT (s := a &&& (b &&& c)) (t := a &&& (b &&& c)) rfl (by kernel_rfl) (by kernel_rfl) (by simp)) ?_
  refine Each.val 62 (.bool true) (by kernel_rfl) (by kernel_rfl) (by kernel_rfl) hN (fun _ _ _ => by kernel_rfl) ?_
  refine Each.val 63 (.bool true) (by kernel_rfl) (by kernel_rfl) (by kernel_rfl) hN (fun _ _ _ => by kernel_rfl) ?_
  refine Each.val 64 (.func (.func 26) #[] #[]) (by kernel_rfl) (by kernel_rfl) (by kernel_rfl) hN (fun _ _ _ => by kernel_rfl) ?_
  refine Each.val 65 (vset a) (by kernel_rfl) (by kernel_rfl) (by kernel_rfl) hN (fun _ hS _ => ex_load rfl (by kernel_rfl) hS.2.1) ?_
  refine Each.val 66 (.func (.func 40) #[] #[]) (by kernel_rfl) (by kernel_rfl) (by kernel_rfl) hN (fun _ _ _ => by kernel_rfl) ?_
  refine Each.val 67 (vset b) (by kernel_rfl) (by kernel_rfl) (by kernel_rfl) hN (fun _ hS _ => ex_load rfl (by kernel_rfl) hS.2.2.1) ?_
  refine Each.val 68 (vset c) (by kernel_rfl) (by kernel_rfl) (by kernel_rfl) hN (fun _ hS _ => ex_load rfl (by kernel_rfl) hS.2.2.2) ?_
  refine Each.call 69 (vset (b ||| c)) 40 #[vset b, vset c] (by kernel_rfl) (by kernel_rfl) (by kernel_rfl) (fun _ _ => by kernel_rfl) (fun W _ => jcE (by first | with_reducible rfl | exact bl1 a b c | exact bl2 a b c | exact bl3 a b c | exact bl4 a b | exact bl5 a b c | exact bl6 a b c | exact bl7 a b) W) ?_
  refine Each.call 70 (vset (a &&& (b ||| c))) 26 #[vset a, vset (b ||| c)] (by kernel_rfl) (by kernel_rfl) (by kernel_rfl) (fun _ _ => by kernel_rfl) (fun W _ => mcE (by first | with_reducible rfl | exact bl1 a b c | exact bl2 a b c | exact bl3 a b c | exact bl4 a b | exact bl5 a b c | exact bl6 a b c | exact bl7 a b) W) ?_
  refine Each.val 71 (.func (.func 40) #[] #[]) (by kernel_rfl) (by kernel_rfl) (by kernel_rfl) hN (fun _ _ _ => by kernel_rfl) ?_
  refine Each.val 72 (.func (.func 26) #[] #[]) (by kernel_rfl) (by kernel_rfl) (by kernel_rfl) hN (fun _ _ _ => by kernel_rfl) ?_
  refine Each.val 73 (vset a) (by kernel_rfl) (by kernel_rfl) (by kernel_rfl) hN (fun _ hS _ => ex_load rfl (by kernel_rfl) hS.2.1) ?_
  refine Each.val 74 (vset b) (by kernel_rfl) (by kernel_rfl) (by kernel_rfl) hN (fun _ hS _ => ex_load rfl (by kernel_rfl) hS.2.2.1) ?_
  refine Each.call 75 (vset (a &&& b)) 26 #[vset a, vset b] (by kernel_rfl) (by kernel_rfl) (by kernel_rfl) (fun _ _ => by kernel_rfl) (fun W _ => mcE (by first | with_reducible rfl | exact bl1 a b c | exact bl2 a b c | exact bl3 a b c | exact bl4 a b | exact bl5 a b c | exact bl6 a b c | exact bl7 a b) W) ?_
  refine Each.val 76 (.func (.func 26) #[] #[]) (by kernel_rfl) (by kernel_rfl) (by kernel_rfl) hN (fun _ _ _ => by kernel_rfl) ?_
  refine Each.val 77 (vset a) (by kernel_rfl) (by kernel_rfl) (by kernel_rfl) hN (fun _ hS _ => ex_load rfl (by kernel_rfl) hS.2.1) ?_
  refine Each.val 78 (vset c) (by kernel_rfl) (by kernel_rfl) (by kernel_rfl) hN (fun _ hS _ => ex_load rfl (by kernel_rfl) hS.2.2.2) ?_
  refine Each.call 79 (vset (a &&& c)) 26 #[vset a, vset c] (by kernel_rfl) (by kernel_rfl) (by kernel_rfl) (fun _ _ => by kernel_rfl) (fun W _ => mcE (by first | with_reducible rfl | exact bl1 a b c | exact bl2 a b c | exact bl3 a b c | exact bl4 a b | exact bl5 a b c | exact bl6 a b c | exact bl7 a b) W) ?_
  refine Each.call 80 (vset (a &&& (b ||| c))) 40 #[vset (a &&& b), vset (a &&& c)] (by kernel_rfl) (by kernel_rfl) (by kernel_rfl) (fun _ _ => by kernel_rfl) (fun W _ => jcE (by first | with_reducible rfl | exact bl1 a b c | exact bl2 a b c | exact bl3 a b c | exact bl4 a b | exact bl5 a b c | exact bl6 a b c | exact bl7 a b) W) ?_
  refine Each.val 81 (.bool true) (by kernel_rfl) (by kernel_rfl) (by kernel_rfl) hN (fun _ _ _ => ex_eqT (s := a &&& (b ||| c)) (t := a &&& (b ||| c)) rfl (by kernel_rfl) (by kernel_rfl) (by simp)) ?_
  refine Each.val 82 (.bool true) (by kernel_rfl) (by kernel_rfl) (by kernel_rfl) hN (fun _ _ _ => by kernel_rfl) ?_
  refine Each.val 83 (.bool true) (by kernel_rfl) (by kernel_rfl) (by kernel_rfl) hN (fun _ _ _ => by kernel_rfl) ?_
  refine Each.val 84 (.func (.func 40) #[] #[]) (by kernel_rfl) (by kernel_rfl) (by kernel_rfl) hN (fun _ _ _ => by kernel_rfl) ?_
  refine Each.val 85 (vset a) (by kernel_rfl) (by kernel_rfl) (by kernel_rfl) hN (fun _ hS _ => ex_load rfl (by kernel_rfl) hS.2.1) ?_
  refine Each.val 86 (.func (.func 26) #[] #[]) (by kernel_rfl) (by kernel_rfl) (by kernel_rfl) hN (fun _ _ _ => by kernel_rfl) ?_
  refine Each.val 87 (vset b) (by kernel_rfl) (by kernel_rfl) (by kernel_rfl) hN (fun _ hS _ => ex_load rfl (by kernel_rfl) hS.2.2.1) ?_
  refine Each.val 88 (vset c) (by kernel_rfl) (by kernel_rfl) (by kernel_rfl) hN (fun _ hS _ => ex_load rfl (by kernel_rfl) hS.2.2.2) ?_
  refine Each.call 89 (vset (b &&& c)) 26 #[vset b, vset c] (by kernel_rfl) (by kernel_rfl) (by kernel_rfl) (fun _ _ => by kernel_rfl) (fun W _ => mcE (by first | with_reducible rfl | exact bl1 a b c | exact bl2 a b c | exact bl3 a b c | exact bl4 a b | exact bl5 a b c | exact bl6 a b c | exact bl7 a b) W) ?_
  refine Each.call 90 (vset (a ||| (b &&& c))) 40 #[vset a, vset (b &&& c)] (by kernel_rfl) (by kernel_rfl) (by kernel_rfl) (fun _ _ => by kernel_rfl) (fun W _ => jcE (by first | with_reducible rfl | exact bl1 a b c | exact bl2 a b c | exact bl3 a b c | exact bl4 a b | exact bl5 a b c | exact bl6 a b c | exact bl7 a b) W) ?_
  refine Each.val 91 (.func (.func 26) #[] #[]) (by kernel_rfl) (by kernel_rfl) (by kernel_rfl) hN (fun _ _ _ => by kernel_rfl) ?_
  refine Each.val 92 (.func (.func 40) #[] #[]) (by kernel_rfl) (by kernel_rfl) (by kernel_rfl) hN (fun _ _ _ => by kernel_rfl) ?_
  refine Each.val 93 (vset a) (by kernel_rfl) (by kernel_rfl) (by kernel_rfl) hN (fun _ hS _ => ex_load rfl (by kernel_rfl) hS.2.1) ?_
  refine Each.val 94 (vset b) (by kernel_rfl) (by kernel_rfl) (by kernel_rfl) hN (fun _ hS _ => ex_load rfl (by kernel_rfl) hS.2.2.1) ?_
  refine Each.call 95 (vset (a ||| b)) 40 #[vset a, vset b] (by kernel_rfl) (by kernel_rfl) (by kernel_rfl) (fun _ _ => by kernel_rfl) (fun W _ => jcE (by first | with_reducible rfl | exact bl1 a b c | exact bl2 a b c | exact bl3 a b c | exact bl4 a b | exact bl5 a b c | exact bl6 a b c | exact bl7 a b) W) ?_
  refine Each.val 96 (.func (.func 40) #[] #[]) (by kernel_rfl) (by kernel_rfl) (by kernel_rfl) hN (fun _ _ _ => by kernel_rfl) ?_
  refine Each.val 97 (vset a) (by kernel_rfl) (by kernel_rfl) (by kernel_rfl) hN (fun _ hS _ => ex_load rfl (by kernel_rfl) hS.2.1) ?_
  refine Each.val 98 (vset c) (by kernel_rfl) (by kernel_rfl) (by kernel_rfl) hN (fun _ hS _ => ex_load rfl (by kernel_rfl) hS.2.2.2) ?_
  refine Each.call 99 (vset (a ||| c)) 40 #[vset a, vset c] (by kernel_rfl) (by kernel_rfl) (by kernel_rfl) (fun _ _ => by kernel_rfl) (fun W _ => jcE (by first | with_reducible rfl | exact bl1 a b c | exact bl2 a b c | exact bl3 a b c | exact bl4 a b | exact bl5 a b c | exact bl6 a b c | exact bl7 a b) W) ?_
  refine Each.call 100 (vset (a ||| (b &&& c))) 26 #[vset (a ||| b), vset (a ||| c)] (by kernel_rfl) (by kernel_rfl) (by kernel_rfl) (fun _ _ => by kernel_rfl) (fun W _ => mcE (by first | with_reducible rfl | exact bl1 a b c | exact bl2 a b c | exact bl3 a b c | exact bl4 a b | exact bl5 a b c | exact bl6 a b c | exact bl7 a b) W) ?_
  refine Each.val 101 (.bool true) (by kernel_rfl) (by kernel_rfl) (by kernel_rfl) hN (fun _ _ _ => ex_eqT (s := a ||| (b &&& c)) (t := a ||| (b &&& c)) rfl (by kernel_rfl) (by kernel_rfl) (by simp)) ?_
  refine Each.val 102 (.bool true) (by kernel_rfl) (by kernel_rfl) (by kernel_rfl) hN (fun _ _ _ => by kernel_rfl) ?_
  refine Each.val 103 (.bool true) (by kernel_rfl) (by kernel_rfl) (by kernel_rfl) hN (fun _ _ _ => by kernel_rfl) ?_
  refine Each.val 104 (vset a) (by kernel_rfl) (by kernel_rfl) (by kernel_rfl) hN (fun _ hS _ => ex_load rfl (by kernel_rfl) hS.2.1) ?_
  refine Each.val 105 (vset b) (by kernel_rfl) (by kernel_rfl) (by kernel_rfl) hN (fun _ hS _ => ex_load rfl (by kernel_rfl) hS.2.2.1) ?_
  refine Each.val 106 (vset c) (by kernel_rfl) (by kernel_rfl) (by kernel_rfl) hN (fun _ hS _ => ex_load rfl (by kernel_rfl) hS.2.2.2) ?_
  refine Each.makes 107 (by kernel_rfl) (by kernel_rfl) (by kernel_rfl) (by kernel_rfl) (by kernel_rfl) (fun W hS _ => ⟨_, _, ex_slice3 (a := a) (b := b) (c := c) rfl (by kernel_rfl) (by kernel_rfl) (by kernel_rfl), (Below.refl _ W).alloc (Nat.le_refl _) _, _, rfl, Blk.new W 29 _⟩) ?_
  refine Each.callLoose 108 107 (vset (a ||| (b ||| c))) 20 (by kernel_rfl) (by kernel_rfl) (by kernel_rfl) (by kernel_rfl) (by kernel_rfl) (by kernel_rfl) (by kernel_rfl) (by kernel_rfl) (fun _ _ => by kernel_rfl) (fun W x _ hx => u3_call hx) ?_
  refine Each.val 109 (.func (.func 40) #[] #[]) (by kernel_rfl) (by kernel_rfl) (by kernel_rfl) hN (fun _ _ _ => by kernel_rfl) ?_
  refine Each.val 110 (vset a) (by kernel_rfl) (by kernel_rfl) (by kernel_rfl) hN (fun _ hS _ => ex_load rfl (by kernel_rfl) hS.2.1) ?_
  refine Each.val 111 (.func (.func 40) #[] #[]) (by kernel_rfl) (by kernel_rfl) (by kernel_rfl) hN (fun _ _ _ => by kernel_rfl) ?_
  refine Each.val 112 (vset b) (by kernel_rfl) (by kernel_rfl) (by kernel_rfl) hN (fun _ hS _ => ex_load rfl (by kernel_rfl) hS.2.2.1) ?_
  refine Each.val 113 (vset c) (by kernel_rfl) (by kernel_rfl) (by kernel_rfl) hN (fun _ hS _ => ex_load rfl (by kernel_rfl) hS.2.2.2) ?_
  refine Each.call 114 (vset (b ||| c)) 40 #[vset b, vset c] (by kernel_rfl) (by kernel_rfl) (by kernel_rfl) (fun _ _ => by kernel_rfl) (fun W _ => jcE (by first | with_reducible rfl | exact bl1 a b c | exact bl2 a b c | exact bl3 a b c | exact bl4 a b | exact bl5 a b c | exact bl6 a b c | exact bl7 a b) W) ?_
  refine Each.call 115 (vset (a ||| (b ||| c))) 40 #[vset a, vset (b ||| c)] (by kernel_rfl) (by kernel_rfl) (by kernel_rfl) (fun _ _ => by kernel_rfl) (fun W _ => jcE (by first | with_reducible rfl | exact bl1 a b c | exact bl2 a b c | exact bl3 a b c | exact bl4 a b | exact bl5 a b c | exact bl6 a b c | exact bl7 a b) W) ?_
  refine Each.val 116 (.bool true) (by kernel_rfl) (by kernel_rfl) (by kernel_rfl) hN (fun _ _ _ => ex_eqT (s := a ||| (b ||| c)) (t := a ||| (b ||| c)) rfl (by kernel_rfl) (by kernel_rfl) (by simp)) ?_
  refine Each.val 117 (.bool true) (by kernel_rfl) (by kernel_rfl) (by kernel_rfl) hN (fun _ _ _ => by kernel_rfl) ?_
  refine Each.val 118 (.bool true) (by kernel_rfl) (by kernel_rfl) (by kernel_rfl) hN (fun _ _ _ => by kernel_rfl) ?_
  refine Each.val 119 (vset a) (by kernel_rfl) (by kernel_rfl) (by kernel_rfl) hN (fun _ hS _ => ex_load rfl (by kernel_rfl) hS.2.1) ?_
  refine Each.val 120 (.func (.func 40) #[] #[]) (by kernel_rfl) (by kernel_rfl) (by kernel_rfl) hN (fun _ _ _ => by kernel_rfl) ?_
  refine Each.val 121 (vset b) (by kernel_rfl) (by kernel_rfl) (by kernel_rfl) hN (fun _ hS _ => ex_load rfl (by kernel_rfl) hS.2.2.1) ?_
  refine Each.val 122 (vset c) (by kernel_rfl) (by kernel_rfl) (by kernel_rfl) hN (fun _ hS _ => ex_load rfl (by kernel_rfl) hS.2.2.2) ?_
  refine Each.call 123 (vset (b ||| c)) 40 #[vset b, vset c] (by kernel_rfl) (by kernel_rfl) (by kernel_rfl) (fun _ _ => by kernel_rfl) (fun W _ => jcE (by first | with_reducible rfl | exact bl1 a b c | exact bl2 a b c | exact bl3 a b c | exact bl4 a b | exact bl5 a b c | exact bl6 a b c | exact bl7 a b) W) ?_
  refine Each.call 124 (vset (a &&& ~~~(b ||| c))) 28 #[vset a, vset (b ||| c)] (by kernel_rfl) (by kernel_rfl) (by kernel_rfl) (fun _ _ => by kernel_rfl) (fun W _ => wcE (by first | with_reducible rfl | exact bl1 a b c | exact bl2 a b c | exact bl3 a b c | exact bl4 a b | exact bl5 a b c | exact bl6 a b c | exact bl7 a b) W) ?_
  refine Each.val 125 (.func (.func 26) #[] #[]) (by kernel_rfl) (by kernel_rfl) (by kernel_rfl) hN (fun _ _ _ => by kernel_rfl) ?_
  refine Each.val 126 (vset a) (by kernel_rfl) (by kernel_rfl) (by kernel_rfl) hN (fun _ hS _ => ex_load rfl (by kernel_rfl) hS.2.1) ?_
  refine Each.val 127 (vset b) (by kernel_rfl) (by kernel_rfl) (by kernel_rfl) hN (fun _ hS _ => ex_load rfl (by kernel_rfl) hS.2.2.1) ?_
  refine Each.call 128 (vset (a &&& ~~~b)) 28 #[vset a, vset b] (by kernel_rfl) (by kernel_rfl) (by kernel_rfl) (fun _ _ => by kernel_rfl) (fun W _ => wcE (by first | with_reducible rfl | exact bl1 a b c | exact bl2 a b c | exact bl3 a b c | exact bl4 a b | exact bl5 a b c | exact bl6 a b c | exact bl7 a b) W) ?_
  refine Each.val 129 (vset a) (by kernel_rfl) (by kernel_rfl) (by kernel_rfl) hN (fun _ hS _ => ex_load rfl (by kernel_rfl) hS.2.1) ?_
  refine Each.val 130 (vset c) (by kernel_rfl) (by kernel_rfl) (by kernel_rfl) hN (fun _ hS _ => ex_load rfl (by kernel_rfl) hS.2.2.2) ?_
  refine Each.call 131 (vset (a &&& ~~~c)) 28 #[vset a, vset c] (by kernel_rfl) (by kernel_rfl) (by kernel_rfl) (fun _ _ => by kernel_rfl) (fun W _ => wcE (by first | with_reducible rfl | exact bl1 a b c | exact bl2 a b c | exact bl3 a b c | exact bl4 a b | exact bl5 a b c | exact bl6 a b c | exact bl7 a b) W) ?_
  refine Each.call 132 (vset (a &&& ~~~(b ||| c))) 26 #[vset (a &&& ~~~b), vset (a &&& ~~~c)] (by kernel_rfl) (by kernel_rfl) (by kernel_rfl) (fun _ _ => by kernel_rfl) (fun W _ => mcE (by first | with_reducible rfl | exact bl1 a b c | exact bl2 a b c | exact bl3 a b c | exact bl4 a b | exact bl5 a b c | exact bl6 a b c | exact bl7 a b) W) ?_
  refine Each.val 133 (.bool true) (by kernel_rfl) (by kernel_rfl) (by kernel_rfl) hN (fun _ _ _ => ex_eqT (s := a &&& ~~~(b ||| c)) (t := a &&& ~~~(b ||| c)) rfl (by kernel_rfl) (by kernel_rfl) (by simp)) ?_
  refine Each.val 134 (.bool true) (by kernel_rfl) (by kernel_rfl) (by kernel_rfl) hN (fun _ _ _ => by kernel_rfl) ?_
  refine Each.val 135 (.bool true) (by kernel_rfl) (by kernel_rfl) (by kernel_rfl) hN (fun _ _ _ => by kernel_rfl) ?_
  refine Each.val 136 (vset a) (by kernel_rfl) (by kernel_rfl) (by kernel_rfl) hN (fun _ hS _ => ex_load rfl (by kernel_rfl) hS.2.1) ?_
  refine Each.val 137 (vset b) (by kernel_rfl) (by kernel_rfl) (by kernel_rfl) hN (fun _ hS _ => ex_load rfl (by kernel_rfl) hS.2.2.1) ?_
  refine Each.call 138 (.bool true) 30 #[vset a, vset b] (by kernel_rfl) (by kernel_rfl) (by kernel_rfl) (fun _ _ => by kernel_rfl) (fun W _ => icE hp W) ?_
  refine Each.val 139 (.bool false) (by kernel_rfl) (by kernel_rfl) (by kernel_rfl) hN (fun _ _ _ => by kernel_rfl) ?_
  refine Each.val 140 (.bool false) (by kernel_rfl) (by kernel_rfl) (by kernel_rfl) hN (fun _ _ _ => by kernel_rfl) ?_
  refine Each.val 141 (vset b) (by kernel_rfl) (by kernel_rfl) (by kernel_rfl) hN (fun _ hS _ => ex_load rfl (by kernel_rfl) hS.2.2.1) ?_
  refine Each.val 142 (vset c) (by kernel_rfl) (by kernel_rfl) (by kernel_rfl) hN (fun _ hS _ => ex_load rfl (by kernel_rfl) hS.2.2.2) ?_
  refine Each.call 143 (.bool false) 30 #[vset b, vset c] (by kernel_rfl) (by kernel_rfl) (by kernel_rfl) (fun _ _ => by kernel_rfl) (fun W _ => icE hr W) ?_
  refine Each.val 144 (.bool true) (by kernel_rfl) (by kernel_rfl) (by kernel_rfl) hN (fun _ _ _ => by kernel_rfl) ?_
  refine Each.val 145 (.bool true) (by kernel_rfl) (by kernel_rfl) (by kernel_rfl) hN (fun _ _ _ => by kernel_rfl) ?_
  refine Each.val 146 (.bool true) (by kernel_rfl) (by kernel_rfl) (by kernel_rfl) hN (fun _ _ _ => by kernel_rfl) ?_
  refine Each.off 147 (by kernel_rfl) (by kernel_rfl) (by kernel_rfl) ?_
  refine Each.off 148 (by kernel_rfl) (by kernel_rfl) (by kernel_rfl) ?_
  refine Each.off 149 (by kernel_rfl) (by kernel_rfl) (by kernel_rfl) ?_
  refine Each.val 150 (.bool true) (by kernel_rfl) (by kernel_rfl) (by kernel_rfl) hN (fun _ _ _ => by kernel_rfl) ?_
  refine Each.val 151 (.bool true) (by kernel_rfl) (by kernel_rfl) (by kernel_rfl) hN (fun _ _ _ => by kernel_rfl) ?_
  refine Each.val 152 (.bool true) (by kernel_rfl) (by kernel_rfl) (by kernel_rfl) hN (fun _ _ _ => by kernel_rfl) ?_
  refine Each.val 153 (vset a) (by kernel_rfl) (by kernel_rfl) (by kernel_rfl) hN (fun _ hS _ => ex_load rfl (by kernel_rfl) hS.2.1) ?_
  refine Each.val 154 (vset b) (by kernel_rfl) (by kernel_rfl) (by kernel_rfl) hN (fun _ hS _ => ex_load rfl (by kernel_rfl) hS.2.2.1) ?_
  refine Each.call 155 (.bool true) 30 #[vset a, vset b] (by kernel_rfl) (by kernel_rfl) (by kernel_rfl) (fun _ _ => by kernel_rfl) (fun W _ => icE hp W) ?_
  refine Each.val 156 (.bool true) (by kernel_rfl) (by kernel_rfl) (by kernel_rfl) hN (fun _ _ _ => by kernel_rfl) ?_
  refine Each.val 157 (vset b) (by kernel_rfl) (by kernel_rfl) (by kernel_rfl) hN (fun _ hS _ => ex_load rfl (by kernel_rfl) hS.2.2.1) ?_
  refine Each.val 158 (vset a) (by kernel_rfl) (by kernel_rfl) (by kernel_rfl) hN (fun _ hS _ => ex_load rfl (by kernel_rfl) hS.2.1) ?_
  refine Each.call 159 (.bool q) 30 #[vset b, vset a] (by kernel_rfl) (by kernel_rfl) (by kernel_rfl) (fun _ _ => by kernel_rfl) (fun W _ => icE hq W) ?_
  refine Each.val 160 (.bool q) (by kernel_rfl) (by kernel_rfl) (by kernel_rfl) hN (fun _ _ _ => by kernel_rfl) ?_
  refine Each.val 161 (vset a) (by kernel_rfl) (by kernel_rfl) (by kernel_rfl) hN (fun _ hS _ => ex_load rfl (by kernel_rfl) hS.2.1) ?_
  refine Each.val 162 (vset b) (by kernel_rfl) (by kernel_rfl) (by kernel_rfl) hN (fun _ hS _ => ex_load rfl (by kernel_rfl) hS.2.2.1) ?_
  refine Each.val 163 (.bool q) (by kernel_rfl) (by kernel_rfl) (by kernel_rfl) hN (fun _ _ _ => ex_eqT (s := a) (t := b) rfl (by kernel_rfl) (by kernel_rfl) hab) ?_
  refine Each.val 164 (.bool true) (by kernel_rfl) (by kernel_rfl) (by kernel_rfl) hN (fun _ _ _ => ex_eqBT (s := q) (t := q) rfl (by kernel_rfl) (by kernel_rfl) (by simp)) ?_
  refine Each.val 165 (.bool true) (by kernel_rfl) (by kernel_rfl) (by kernel_rfl) hN (fun _ _ _ => by kernel_rfl) ?_
  refine Each.val 166 (.bool true) (by kernel_rfl) (by kernel_rfl) (by kernel_rfl) hN (fun _ _ _ => by kernel_rfl) ?_
  refine Each.call 167 (.bool true) 10 #[] (by kernel_rfl) (by kernel_rfl) (by kernel_rfl) (fun _ _ => by kernel_rfl) (fun W hS => works_any _ (hG.below (Nat.le_refl _) hS.1)) ?_
  refine Each.val 168 (.bool true) (by kernel_rfl) (by kernel_rfl) (by kernel_rfl) hN (fun _ _ _ => by kernel_rfl) ?_
  refine Each.val 6 (.bool true) (by kernel_rfl) (by kernel_rfl) (by kernel_rfl) hN (fun _ _ _ => by kernel_rfl) ?_
  exact trivial

set_option maxRecDepth 100000 in
set_option maxHeartbeats 20000000 in
theorem lawLawsC (a b c : BS) (w : World) (hG : Glob w) (hp : (a &&& b == a) = true) (hr : (b &&& c == b) = true) : Calls Tryd.prog 8 #[vset a, vset b, vset c] w fun e w' => e = .returned (.bool true) ∧ Below w.heap.size w w' := by
  have hac : (a &&& c == a) = true := by
    rw [beq_iff_eq] at hp hr ⊢
    exact bs_trans a b c hp hr
  obtain ⟨q, hq⟩ : ∃ q, (b &&& a == b) = q := ⟨_, rfl⟩
  have hab : (a == b) = q := by
    rw [← hq]
    rw [beq_iff_eq] at hp
    by_cases h : a = b
    · subst h; simp
    · have : ¬ (b &&& a = b) := fun h' => h (by rw [← h', BitVec.and_comm, hp])
      rw [beq_eq_false_iff_ne.2 h, beq_eq_false_iff_ne.2 this]
  have hN : ∀ w : World, Below w.heap.size w w := fun w => Below.refl _ w
  have hst := Lib.hid (st_start w a b c)
  have key : ∀ W', St w W' a b c → Below w.heap.size w W' := fun W' h => h.1
  unfold vset
  go_enter Tryd.func8, Tryd.ntmps8
  simp only [List.append_eq, List.cons_append, List.nil_append]
  go_wp2
  refine wp_region_vals (N := fun W W' => Below W.heap.size W W') (S := fun W => St w W a b c) [107] (fun _ v W => ∃ n, v = .slice (some ⟨n, 0, none⟩) 3 3 ∧ Blk W n 29 (cells3 a b c))
    [.func (.func 40) #[] #[], vset a, vset b, vset (a ||| b), .func (.func 40) #[] #[], vset b, vset a, vset (a ||| b), .bool true, .bool true, .func (.func 26) #[] #[], vset a, vset b, vset (a &&& b), .func (.func 26) #[] #[], vset b, vset a, vset (a &&& b), .bool true, .bool true, .bool true, .func (.func 40) #[] #[], vset a, .func (.func 40) #[] #[], vset b, vset c, vset (b ||| c), vset (a ||| (b ||| c)), .func (.func 40) #[] #[], .func (.func 40) #[] #[], vset a, vset b, vset (a ||| b), vset c, vset (a ||| (b ||| c)), .bool true, .bool true, .bool true, .func (.func 26) #[] #[], vset a, .func (.func 26) #[] #[], vset b, vset c, vset (b &&& c), vset (a &&& (b &&& c)), .func (.func 26) #[] #[], .func (.func 26) #[] #[], vset a, vset b, vset (a &&& b), vset c, vset (a &&& (b &&& c)), .bool true, .bool true, .bool true, .func (.func 26) #[] #[], vset a, .func (.func 40) #[] #[], vset b, vset c, vset (b ||| c), vset (a &&& (b ||| c)), .func (.func 40) #[] #[], .func (.func 26) #[] #[], vset a, vset b, vset (a &&& b), .func (.func 26) #[] #[], vset a, vset c, vset (a &&& c), vset (a &&& (b ||| c)), .bool true, .bool true, .bool true, .func (.func 40) #[] #[], vset a, .func (.func 26) #[] #[], vset b, vset c, vset (b &&& c), vset (a ||| (b &&& c)), .func (.func 26) #[] #[], .func (.func 40) #[] #[], vset a, vset b, vset (a ||| b), .func (.func 40) #[] #[], vset a, vset c, vset (a ||| c), vset (a ||| (b &&& c)), .bool true, .bool true, .bool true, vset a, vset b, vset c, undef, vset (a ||| (b ||| c)), .func (.func 40) #[] #[], vset a, .func (.func 40) #[] #[], vset b, vset c, vset (b ||| c), vset (a ||| (b ||| c)), .bool true, .bool true, .bool true, vset a, .func (.func 40) #[] #[], vset b, vset c, vset (b ||| c), vset (a &&& ~~~(b ||| c)), .func (.func 26) #[] #[], vset a, vset b, vset (a &&& ~~~b), vset a, vset c, vset (a &&& ~~~c), vset (a &&& ~~~(b ||| c)), .bool true, .bool true, .bool true, vset a, vset b, .bool true, .bool false, .bool false, vset b, vset c, .bool true, .bool false, .bool false, .bool false, vset a, vset c, .bool true, .bool true, .bool true, .bool true, vset a, vset b, .bool true, .bool true, vset b, vset a, .bool q, .bool q, vset a, vset b, .bool q, .bool true, .bool true, .bool true, .bool true, .bool true, .bool true]
    #[vset a, vset b, vset c, .pointer (some ⟨w.heap.size, 0, none⟩), .pointer (some ⟨w.heap.size + 1, 0, none⟩), .pointer (some ⟨w.heap.size + 1 + 1, 0, none⟩), .bool true, .func (.func 26) #[] #[], .func (.func 40) #[] #[], .func (.func 40) #[] #[], vset a, vset b, vset (a ||| b), .func (.func 40) #[] #[], vset b, vset a, vset (a ||| b), .bool true, .bool true, .func (.func 26) #[] #[], vset a, vset b, vset (a &&& b), .func (.func 26) #[] #[], vset b, vset a, vset (a &&& b), .bool true, .bool true, .bool true, .func (.func 40) #[] #[], vset a, .func (.func 40) #[] #[], vset b, vset c, vset (b ||| c), vset (a ||| (b ||| c)), .func (.func 40) #[] #[], .func (.func 40) #[] #[], vset a, vset b, vset (a ||| b), vset c, vset (a ||| (b ||| c)), .bool true, .bool true, .bool true, .func (.func 26) #[] #[], vset a, .func (.func 26) #[] #[], vset b, vset c, vset (b &&& c), vset (a &&& (b &&& c)), .func (.func 26) #[] #[], .func (.func 26) #[] #[], vset a, vset b, vset (a &&& b), vset c, vset (a &&& (b &&& c)), .bool true, .bool true, .bool true, .func (.func 26) #[] #[], vset a, .func (.func 40) #[] #[], vset b, vset c, vset (b ||| c), vset (a &&& (b ||| c)), .func (.func 40) #[] #[], .func (.func 26) #[] #[], vset a, vset b, vset (a &&& b), .func (.func 26) #[] #[], vset a, vset c, vset (a &&& c), vset (a &&& (b ||| c)), .bool true, .bool true, .bool true, .func (.func 40) #[] #[], vset a, .func (.func 26) #[] #[], vset b, vset c, vset (b &&& c), vset (a ||| (b &&& c)), .func (.func 26) #[] #[], .func (.func 40) #[] #[], vset a, vset b, vset (a ||| b), .func (.func 40) #[] #[], vset a, vset c, vset (a ||| c), vset (a ||| (b &&& c)), .bool true, .bool true, .bool true, vset a, vset b, vset c, undef, vset (a ||| (b ||| c)), .func (.func 40) #[] #[], vset a, .func (.func 40) #[] #[], vset b, vset c, vset (b ||| c), vset (a ||| (b ||| c)), .bool true, .bool true, .bool true, vset a, .func (.func 40) #[] #[], vset b, vset c, vset (b ||| c), vset (a &&& ~~~(b ||| c)), .func (.func 26) #[] #[], vset a, vset b, vset (a &&& ~~~b), vset a, vset c, vset (a &&& ~~~c), vset (a &&& ~~~(b ||| c)), .bool true, .bool true, .bool true, vset a, vset b, .bool true, .bool false, .bool false, vset b, vset c, .bool true, .bool false, .bool false, .bool false, vset a, vset c, .bool true, .bool true, .bool true, .bool true, vset a, vset b, .bool true, .bool true, vset b, vset a, .bool q, .bool q, vset a, vset b, .bool q, .bool true, .bool true, .bool true, .bool true, .bool true]
    rfl (by kernel_rfl) (by kernel_rfl) (by kernel_rfl) (by kernel_rfl) hN hst.out.drew (fun W W' h hB => h.next hB) (fun _ _ v W W' h hB => h.imp fun n h => ⟨h.1, h.2.below hB h.2.lt⟩) ?_ ?_
  rotate_left
  · intro T w' hT hS hk
    obtain ⟨v, hv, hK⟩ := hk 6 (by simp)
    have h6 : T[6]? = some (.bool true) := by
      rcases hK with ⟨h, _⟩ | ⟨_, h⟩
      · exact absurd h (by decide)
      · rw [hv, ← h]; kernel_rfl
    have hfin := Lib.hid hS.1
    clear hk hS hK hv hT hst key
    go_wp2
    have h6' : T.getD 6 undef = .bool true := by rw [Array.getD_eq_getD_getElem?, h6]; rfl
    go_ret
    refine ⟨?_, hfin.out⟩
    show Ending.returned (T.getD 6 undef) = _
    rw [h6']
  refine Each.val 9 (.func (.func 40) #[] #[]) (by kernel_rfl) (by kernel_rfl) (by kernel_rfl) hN (fun _ _ _ => by kernel_rfl) ?_
  refine Each.val 10 (vset a) (by kernel_rfl) (by kernel_rfl) (by kernel_rfl) hN (fun _ hS _ => ex_load rfl (by kernel_rfl) hS.2.1) ?_
  refine Each.val 11 (vset b) (by kernel_rfl) (by kernel_rfl) (by kernel_rfl) hN (fun _ hS _ => ex_load rfl (by kernel_rfl) hS.2.2.1) ?_
  refine Each.call 12 (vset (a ||| b)) 40 #[vset a, vset b] (by kernel_rfl) (by kernel_rfl) (by kernel_rfl) (fun _ _ => by kernel_rfl) (fun W _ => jcE (by first | with_reducible rfl | exact bl1 a b c | exact bl2 a b c | exact bl3 a b c | exact bl4 a b | exact bl5 a b c | exact bl6 a b c | exact bl7 a b) W) ?_
  refine Each.val 13 (.func (.func 40) #[] #[]) (by kernel_rfl) (by kernel_rfl) (by kernel_rfl) hN (fun _ _ _ => by kernel_rfl) ?_
  refine Each.val 14 (vset b) (by kernel_rfl) (by kernel_rfl) (by kernel_rfl) hN (fun _ hS _ => ex_load rfl (by kernel_rfl) hS.2.2.1) ?_
  refine Each.val 15 (vset a) (by kernel_rfl) (by kernel_rfl) (by kernel_rfl) hN (fun _ hS _ => ex_load rfl (by kernel_rfl) hS.2.1) ?_
  refine Each.call 16 (vset (a ||| b)) 40 #[vset b, vset a] (by kernel_rfl) (by kernel_rfl) (by kernel_rfl) (fun _ _ => by kernel_rfl) (fun W _ => jcE (by first | with_reducible rfl | exact bl1 a b c | exact bl2 a b c | exact bl3 a b c | exact bl4 a b | exact bl5 a b c | exact bl6 a b c | exact bl7 a b) W) ?_
  refine Each.val 17 (.bool true) (by kernel_rfl) (by kernel_rfl) (by kernel_rfl) hN (fun _ _ _ => ex_eqT (s := a ||| b) (t := a ||| b) rfl (by kernel_rfl) (by kernel_rfl) (by simp)) ?_
  refine Each.val 18 (.bool true) (by kernel_rfl) (by kernel_rfl) (by kernel_rfl) hN (fun _ _ _ => by kernel_rfl) ?_
  refine Each.val 19 (.func (.func 26) #[] #[]) (by kernel_rfl) (by kernel_rfl) (by kernel_rfl) hN (fun _ _ _ => by kernel_rfl) ?_
  refine Each.val 20 (vset a) (by kernel_rfl) (by kernel_rfl) (by kernel_rfl) hN (fun _ hS _ => ex_load rfl (by kernel_rfl) hS.2.1) ?_
  refine Each.val 21 (vset b) (by kernel_rfl) (by kernel_rfl) (by kernel_rfl) hN (fun _ hS _ => ex_load rfl (by kernel_rfl) hS.2.2.1) ?_
  refine Each.call 22 (vset (a &&& b)) 26 #[vset a, vset b] (by kernel_rfl) (by kernel_rfl) (by kernel_rfl) (fun _ _ => by kernel_rfl) (fun W _ => mcE (by first | with_reducible rfl | exact bl1 a b c | exact bl2 a b c | exact bl3 a b c | exact bl4 a b | exact bl5 a b c | exact bl6 a b c | exact bl7 a b) W) ?_
  refine Each.val 23 (.func (.func 26) #[] #[]) (by kernel_rfl) (by kernel_rfl) (by kernel_rfl) hN (fun _ _ _ => by kernel_rfl) ?_
  refine Each.val 24 (vset b) (by kernel_rfl) (by kernel_rfl) (by kernel_rfl) hN (fun _ hS _ => ex_load rfl (by kernel_rfl) hS.2.2.1) ?_
  refine Each.val 25 (vset a) (by kernel_rfl) (by kernel_rfl) (by kernel_rfl) hN (fun _ hS _ => ex_load rfl (by kernel_rfl) hS.2.1) ?_
  refine Each.call 26 (vset (a &&& b)) 26 #[vset b, vset a] (by kernel_rfl) (by kernel_rfl) (by kernel_rfl) (fun _ _ => by kernel_rfl) (fun W _ => mcE (by first | with_reducible rfl | exact bl1 a b c | exact bl2 a b c | exact bl3 a b c | exact bl4 a b | exact bl5 a b c | exact bl6 a b c | exact bl7 a b) W) ?_
  refine Each.val 27 (.bool true) (by kernel_rfl) (by kernel_rfl) (by kernel_rfl) hN (fun _ _ _ => ex_eqT (s := a &&& b) (t := a &&& b) rfl (by kernel_rfl) (by kernel_rfl) (by simp)) ?_
  refine Each.val 28 (.bool true) (by kernel_rfl) (by kernel_rfl) (by kernel_rfl) hN (fun _ _ _ => by kernel_rfl) ?_
  refine Each.val 29 (.bool true) (by kernel_rfl) (by kernel_rfl) (by kernel_rfl) hN (fun _ _ _ => by kernel_rfl) ?_
  refine Each.val 30 (.func (.func 40) #[] #[]) (by kernel_rfl) (by kernel_rfl) (by kernel_rfl) hN (fun _ _ _ => by kernel_rfl) ?_
  refine Each.val 31 (vset a) (by kernel_rfl) (by kernel_rfl) (by kernel_rfl) hN (fun _ hS _ => ex_load rfl (by kernel_rfl) hS.2.1) ?_
  refine Each.val 32 (.func (.func 40) #[] #[]) (by kernel_rfl) (by kernel_rfl) (by kernel_rfl) hN (fun _ _ _ => by kernel_rfl) ?_
  refine Each.val 33 (vset b) (by kernel_rfl) (by kernel_rfl) (by kernel_rfl) hN (fun _ hS _ => ex_load rfl (by kernel_rfl) hS.2.2.1) ?_
  refine Each.val 34 (vset c) (by kernel_rfl) (by kernel_rfl) (by kernel_rfl) hN (fun _ hS _ => ex_load rfl (by kernel_rfl) hS.2.2.2) ?_
  refine Each.call 35 (vset (b ||| c)) 40 #[vset b, vset c] (by kernel_rfl) (by kernel_rfl) (by kernel_rfl) (fun _ _ => by kernel_rfl) (fun W _ => jcE (by first | with_reducible rfl | exact bl1 a b c | exact bl2 a b c | exact bl3 a b c | exact bl4 a b | exact bl5 a b c | exact bl6 a b c | exact bl7 a b) W) ?_
  refine Each.call 36 (vset (a ||| (b ||| c))) 40 #[vset a, vset (b ||| c)] (by kernel_rfl) (by kernel_rfl) (by kernel_rfl) (fun _ _ => by kernel_rfl) (fun W _ => jcE (by first | with_reducible rfl | exact bl1 a b c | exact bl2 a b c | exact bl3 a b c | exact bl4 a b | exact bl5 a b c | exact bl6 a b c | exact bl7 a b) W) ?_
  refine Each.val 37 (.func (.func 40) #[] #[]) (by kernel_rfl) (by kernel_rfl) (by kernel_rfl) hN (fun _ _ _ => by kernel_rfl) ?_
  refine Each.val 38 (.func (.func 40) #[] #[]) (by kernel_rfl) (by kernel_rfl) (by kernel_rfl) hN (fun _ _ _ => by kernel_rfl) ?_
  refine Each.val 39 (vset a) (by kernel_rfl) (by kernel_rfl) (by kernel_rfl) hN (fun _ hS _ => ex_load rfl (by kernel_rfl) hS.2.1) ?_
  refine Each.val 40 (vset b) (by kernel_rfl) (by kernel_rfl) (by kernel_rfl) hN (fun _ hS _ => ex_load rfl (by kernel_rfl) hS.2.2.1) ?_
  refine Each.call 41 (vset (a ||| b)) 40 #[vset a, vset b] (by kernel_rfl) (by kernel_rfl) (by kernel_rfl) (fun _ _ => by kernel_rfl) (fun W _ => jcE (by first | with_reducible rfl | exact bl1 a b c | exact bl2 a b c | exact bl3 a b c | exact bl4 a b | exact bl5 a b c | exact bl6 a b c | exact bl7 a b) W) ?_
  refine Each.val 42 (vset c) (by kernel_rfl) (by kernel_rfl) (by kernel_rfl) hN (fun _ hS _ => ex_load rfl (by kernel_rfl) hS.2.2.2) ?_
  refine Each.call 43 (vset (a ||| (b ||| c))) 40 #[vset (a ||| b), vset c] (by kernel_rfl) (by kernel_rfl) (by kernel_rfl) (fun _ _ => by kernel_rfl) (fun W _ => jcE (by first | with_reducible rfl | exact bl1 a b c | exact bl2 a b c | exact bl3 a b c | exact bl4 a b | exact bl5 a b c | exact bl6 a b c | exact bl7 a b) W) ?_
  refine Each.val 44 (.bool true) (by kernel_rfl) (by kernel_rfl) (by kernel_rfl) hN (fun _ _ _ => ex_eqT (s := a ||| (b ||| c)) (t := a ||| (b ||| c)) rfl (by kernel_rfl) (by kernel_rfl) (by simp)) ?_
  refine Each.val 45 (.bool true) (by kernel_rfl) (by kernel_rfl) (by kernel_rfl) hN (fun _ _ _ => by kernel_rfl) ?_
  refine Each.val 46 (.bool true) (by kernel_rfl) (by kernel_rfl) (by kernel_rfl) hN (fun _ _ _ => by kernel_rfl) ?_
  refine Each.val 47 (.func (.func 26) #[] #[]) (by kernel_rfl) (by kernel_rfl) (by kernel_rfl) hN (fun _ _ _ => by kernel_rfl) ?_
  refine Each.val 48 (vset a) (by kernel_rfl) (by kernel_rfl) (by kernel_rfl) hN (fun _ hS _ => ex_load rfl (by kernel_rfl) hS.2.1) ?_
  refine Each.val 49 (.func (.func 26) #[] #[]) (by kernel_rfl) (by kernel_rfl) (by kernel_rfl) hN (fun _ _ _ => by kernel_rfl) ?_
  refine Each.val 50 (vset b) (by kernel_rfl) (by kernel_rfl) (by kernel_rfl) hN (fun _ hS _ => ex_load rfl (by kernel_rfl) hS.2.2.1) ?_
  refine Each.val 51 (vset c) (by kernel_rfl) (by kernel_rfl) (by kernel_rfl) hN (fun _ hS _ => ex_load rfl (by kernel_rfl) hS.2.2.2) ?_
  refine Each.call 52 (vset (b &&& c)) 26 #[vset b, vset c] (by kernel_rfl) (by kernel_rfl) (by kernel_rfl) (fun _ _ => by kernel_rfl) (fun W _ => mcE (by first | with_reducible rfl | exact bl1 a b c | exact bl2 a b c | exact bl3 a b c | exact bl4 a b | exact bl5 a b c | exact bl6 a b c | exact bl7 a b) W) ?_
  refine Each.call 53 (vset (a &&& (b &&& c))) 26 #[vset a, vset (b &&& c)] (by kernel_rfl) (by kernel_rfl) (by kernel_rfl) (fun _ _ => by kernel_rfl) (fun W _ => mcE (by first | with_reducible rfl | exact bl1 a b c | exact bl2 a b c | exact bl3 a b c | exact bl4 a b | exact bl5 a b c | exact bl6 a b c | exact bl7 a b) W) ?_
  refine Each.val 54 (.func (.func 26) #[] #[]) (by kernel_rfl) (by kernel_rfl) (by kernel_rfl) hN (fun _ _ _ => by kernel_rfl) ?_
  refine Each.val 55 (.func (.func 26) #[] #[]) (by kernel_rfl) (by kernel_rfl) (by kernel_rfl) hN (fun _ _ _ => by kernel_rfl) ?_
  refine Each.val 56 (vset a) (by kernel_rfl) (by kernel_rfl) (by kernel_rfl) hN (fun _ hS _ => ex_load rfl (by kernel_rfl) hS.2.1) ?_
  refine Each.val 57 (vset b) (by kernel_rfl) (by kernel_rfl) (by kernel_rfl) hN (fun _ hS _ => ex_load rfl (by kernel_rfl) hS.2.2.1) ?_
  refine Each.call 58 (vset (a &&& b)) 26 #[vset a, vset b] (by kernel_rfl) (by kernel_rfl) (by kernel_rfl) (fun _ _ => by kernel_rfl) (fun W _ => mcE (by first | with_reducible rfl | exact bl1 a b c | exact bl2 a b c | exact bl3 a b c | exact bl4 a b | exact bl5 a b c | exact bl6 a b c | exact bl7 a b) W) ?_
  refine Each.val 59 (vset c) (by kernel_rfl) (by kernel_rfl) (by kernel_rfl) hN (fun _ hS _ => ex_load rfl (by kernel_rfl) hS.2.2.2) ?_
  refine Each.call 60 (vset (a &&& (b &&& c))) 26 #[vset (a &&& b), vset c] (by kernel_rfl) (by kernel_rfl) (by kernel_rfl) (fun _ _ => by kernel_rfl) (fun W _ => mcE (by first | with_reducible rfl | exact bl1 a b c | exact bl2 a b c | exact bl3 a b c | exact bl4 a b | exact bl5 a b c | exact bl6 a b c | exact bl7 a b) W) ?_
  refine Each.val 61 (.bool true) (by kernel_rfl) (by kernel_rfl) (by kernel_rfl) hN (fun _ _ _ => ex_eqT (s := a &&& (b &&& c)) (t := a &&& (b &&& c)) rfl (by kernel_rfl) (by kernel_rfl) (by simp)) ?_
  refine Each.val 62 (.bool true) (by kernel_rfl) (by kernel_rfl) (by kernel_rfl) hN (fun _ _ _ => by kernel_rfl) ?_
  refine Each.val 63 (.bool true) (by kernel_rfl) (by kernel_rfl) (by kernel_rfl) hN (fun _ _ _ => by kernel_rfl) ?_
  refine Each.val 64 (.func (.func 26) #[] #[]) (by kernel_rfl) (by kernel_rfl) (by kernel_rfl) hN (fun _ _ _ => by kernel_rfl) ?_
  refine Each.val 65 (vset a) (by kernel_rfl) (by kernel_rfl) (by kernel_rfl) hN (fun _ hS _ => ex_load rfl (by kernel_rfl) hS.2.1) ?_
  refine Each.val 66 (.func (.func 40) #[] #[]) (by kernel_rfl) (by kernel_rfl) (by kernel_rfl) hN (fun _ _ _ => by kernel_rfl) ?_
  refine Each.val 67 (vset b) (by kernel_rfl) (by kernel_rfl) (by kernel_rfl) hN (fun _ hS _ => ex_load rfl (by kernel_rfl) hS.2.2.1) ?_
  refine Each.val 68 (vset c) (by kernel_rfl) (by kernel_rfl) (by kernel_rfl) hN (fun _ hS _ => ex_load rfl (by kernel_rfl) hS.2.2.2) ?_
  refine Each.call 69 (vset (b ||| c)) 40 #[vset b, vset c] (by kernel_rfl) (by kernel_rfl) (by kernel_rfl) (fun _ _ => by kernel_rfl) (fun W _ => jcE (by first | with_reducible rfl | exact bl1 a b c | exact bl2 a b c | exact bl3 a b c | exact bl4 a b | exact bl5 a b c | exact bl6 a b c | exact bl7 a b) W) ?_
  refine Each.call 70 (vset (a &&& (b ||| c))) 26 #[vset a, vset (b ||| c)] (by kernel_rfl) (by kernel_rfl) (by kernel_rfl) (fun _ _ => by kernel_rfl) (fun W _ => mcE (by first | with_reducible rfl | exact bl1 a b c | exact bl2 a b c | exact bl3 a b c | exact bl4 a b | exact bl5 a b c | exact bl6 a b c | exact bl7 a b) W) ?_
  refine Each.val 71 (.func (.func 40) #[] #[]) (by kernel_rfl) (by kernel_rfl) (by kernel_rfl) hN (fun _ _ _ => by kernel_rfl) ?_
  refine Each.val 72 (.func (.func 26) #[] #[]) (by kernel_rfl) (by kernel_rfl) (by kernel_rfl) hN (fun _ _ _ => by kernel_rfl) ?_
  refine Each.val 73 (vset a) (by kernel_rfl) (by kernel_rfl) (by kernel_rfl) hN (fun _ hS _ => ex_load rfl (by kernel_rfl) hS.2.1) ?_
  refine Each.val 74 (vset b) (by kernel_rfl) (by kernel_rfl) (by kernel_rfl) hN (fun _ hS _ => ex_load rfl (by kernel_rfl) hS.2.2.1) ?_
  refine Each.call 75 (vset (a &&& b)) 26 #[vset a, vset b] (by kernel_rfl) (by kernel_rfl) (by kernel_rfl) (fun _ _ => by kernel_rfl) (fun W _ => mcE (by first | with_reducible rfl | exact bl1 a b c | exact bl2 a b c | exact bl3 a b c | exact bl4 a b | exact bl5 a b c | exact bl6 a b c | exact bl7 a b) W) ?_
  refine Each.val 76 (.func (.func 26) #[] #[]) (by kernel_rfl) (by kernel_rfl) (by kernel_rfl) hN (fun _ _ _ => by kernel_rfl) ?_
  refine Each.val 77 (vset a) (by kernel_rfl) (by kernel_rfl) (by kernel_rfl) hN (fun _ hS _ => ex_load rfl (by kernel_rfl) hS.2.1) ?_
  refine Each.val 78 (vset c) (by kernel_rfl) (by kernel_rfl) (by kernel_rfl) hN (fun _ hS _ => ex_load rfl (by kernel_rfl) hS.2.2.2) ?_
  refine Each.call 79 (vset (a &&& c)) 26 #[vset a, vset c] (by kernel_rfl) (by kernel_rfl) (by kernel_rfl) (fun _ _ => by kernel_rfl) (fun W _ => mcE (by first | with_reducible rfl | exact bl1 a b c | exact bl2 a b c | exact bl3 a b c | exact bl4 a b | exact bl5 a b c | exact bl6 a b c | exact bl7 a b) W) ?_
  refine Each.call 80 (vset (a &&& (b ||| c))) 40 #[vset (a &&& b), vset (a &&& c)] (by kernel_rfl) (by kernel_rfl) (by kernel_rfl) (fun _ _ => by kernel_rfl) (fun W _ => jcE (by first | with_reducible rfl | exact bl1 a b c | exact bl2 a b c | exact bl3 a b c | exact bl4 a b | exact bl5 a b c | exact bl6 a b c | exact bl7 a b) W) ?_
  refine Each.val 81 (.bool true) (by kernel_rfl) (by kernel_rfl) (by kernel_rfl) hN (fun _ _ _ => ex_eqT (s := a &&& (b ||| c)) (t := a &&& (b ||| c)) rfl (by kernel_rfl) (by kernel_rfl) (by simp)) ?_
  refine Each.val 82 (.bool true) (by kernel_rfl) (by kernel_rfl) (by kernel_rfl) hN (fun _ _ _ => by kernel_rfl) ?_
  refine Each.val 83 (.bool true) (by kernel_rfl) (by kernel_rfl) (by kernel_rfl) hN (fun _ _ _ => by kernel_rfl) ?_
  refine Each.val 84 (.func (.func 40) #[] #[]) (by kernel_rfl) (by kernel_rfl) (by kernel_rfl) hN (fun _ _ _ => by kernel_rfl) ?_
  refine Each.val 85 (vset a) (by kernel_rfl) (by kernel_rfl) (by kernel_rfl) hN (fun _ hS _ => ex_load rfl (by kernel_rfl) hS.2.1) ?_
  refine Each.val 86 (.func (.func 26) #[] #[]) (by kernel_rfl) (by kernel_rfl) (by kernel_rfl) hN (fun _ _ _ => by kernel_rfl) ?_
  refine Each.val 87 (vset b) (by kernel_rfl) (by kernel_rfl) (by kernel_rfl) hN (fun _ hS _ => ex_load rfl (by kernel_rfl) hS.2.2.1) ?_
  refine Each.val 88 (vset c) (by kernel_rfl) (by kernel_rfl) (by kernel_rfl) hN (fun _ hS _ => ex_load rfl (by kernel_rfl) hS.2.2.2) ?_
  refine Each.call 89 (vset (b &&& c)) 26 #[vset b, vset c] (by kernel_rfl) (by kernel_rfl) (by kernel_rfl) (fun _ _ => by kernel_rfl) (fun W _ => mcE (by first | with_reducible rfl | exact bl1 a b c | exact bl2 a b c | exact bl3 a b c | exact bl4 a b | exact bl5 a b c | exact bl6 a b c | exact bl7 a b) W) ?_
  refine Each.call 90 (vset (a ||| (b &&& c))) 40 #[vset a, vset (b &&& c)] (by kernel_rfl) (by kernel_rfl) (by kernel_rfl) (fun _ _ => by kernel_rfl) (fun W _ => jcE (by first | with_reducible rfl | exact bl1 a b c | exact bl2 a b c | exact bl3 a b c | exact bl4 a b | exact bl5 a b c | exact bl6 a b c | exact bl7 a b) W) ?_
  refine Each.val 91 (.func (.func 26) #[] #[]) (by kernel_rfl) (by kernel_rfl) (by kernel_rfl) hN (fun _ _ _ => by kernel_rfl) ?_
  refine Each.val 92 (.func (.func 40) #[] #[]) (by kernel_rfl) (by kernel_rfl) (by kernel_rfl) hN (fun _ _ _ => by kernel_rfl) ?_
  refine Each.val 93 (vset a) (by kernel_rfl) (by kernel_rfl) (by kernel_rfl) hN (fun _ hS _ => ex_load rfl (by kernel_rfl) hS.2.1) ?_
  refine Each.val 94 (vset b) (by kernel_rfl) (by kernel_rfl) (by kernel_rfl) hN (fun _ hS _ => ex_load rfl (by kernel_rfl) hS.2.2.1) ?_
  refine Each.call 95 (vset (a ||| b)) 40 #[vset a, vset b] (by kernel_rfl) (by kernel_rfl) (by kernel_rfl) (fun _ _ => by kernel_rfl) (fun W _ => jcE (by first | with_reducible rfl | exact bl1 a b c | exact bl2 a b c | exact bl3 a b c | exact bl4 a b | exact bl5 a b c | exact bl6 a b c | exact bl7 a b) W) ?_
  refine Each.val 96 (.func (.func 40) #[] #[]) (by kernel_rfl) (by kernel_rfl) (by kernel_rfl) hN (fun _ _ _ => by kernel_rfl) ?_
  refine Each.val 97 (vset a) (by kernel_rfl) (by kernel_rfl) (by kernel_rfl) hN (fun _ hS _ => ex_load rfl (by kernel_rfl) hS.2.1) ?_
  refine Each.val 98 (vset c) (by kernel_rfl) (by kernel_rfl) (by kernel_rfl) hN (fun _ hS _ => ex_load rfl (by kernel_rfl) hS.2.2.2) ?_
  refine Each.call 99 (vset (a ||| c)) 40 #[vset a, vset c] (by kernel_rfl) (by kernel_rfl) (by kernel_rfl) (fun _ _ => by kernel_rfl) (fun W _ => jcE (by first | with_reducible rfl | exact bl1 a b c | exact bl2 a b c | exact bl3 a b c | exact bl4 a b | exact bl5 a b c | exact bl6 a b c | exact bl7 a b) W) ?_
  refine Each.call 100 (vset (a ||| (b &&& c))) 26 #[vset (a ||| b), vset (a ||| c)] (by kernel_rfl) (by kernel_rfl) (by kernel_rfl) (fun _ _ => by kernel_rfl) (fun W _ => mcE (by first | with_reducible rfl | exact bl1 a b c | exact bl2 a b c | exact bl3 a b c | exact bl4 a b | exact bl5 a b c | exact bl6 a b c | exact bl7 a b) W) ?_
  refine Each.val 101 (.bool true) (by kernel_rfl) (by kernel_rfl) (by kernel_rfl) hN (fun _ _ _ => ex_eqT (s := a ||| (b &&& c)) (t := a ||| (b &&& c)) rfl (by kernel_rfl) (by kernel_rfl) (by simp)) ?_
  refine Each.val 102 (.bool true) (by kernel_rfl) (by kernel_rfl) (by kernel_rfl) hN (fun _ _ _ => by kernel_rfl) ?_
  refine Each.val 103 (.bool true) (by kernel_rfl) (by kernel_rfl) (by kernel_rfl) hN (fun _ _ _ => by kernel_rfl) ?_
  refine Each.val 104 (vset a) (by kernel_rfl) (by kernel_rfl) (by kernel_rfl) hN (fun _ hS _ => ex_load rfl (by kernel_rfl) hS.2.1) ?_
  refine Each.val 105 (vset b) (by kernel_rfl) (by kernel_rfl) (by kernel_rfl) hN (fun _ hS _ => ex_load rfl (by kernel_rfl) hS.2.2.1) ?_
  refine Each.val 106 (vset c) (by kernel_rfl) (by kernel_rfl) (by kernel_rfl) hN (fun _ hS _ => ex_load rfl (by kernel_rfl) hS.2.2.2) ?_
  refine Each.makes 107 (by kernel_rfl) (by kernel_rfl) (by kernel_rfl) (by kernel_rfl) (by kernel_rfl) (fun W hS _ => ⟨_, _, ex_slice3 (a := a) (b := b) (c := c) rfl (by kernel_rfl) (by kernel_rfl) (by kernel_rfl), (Below.refl _ W).alloc (Nat.le_refl _) _, _, rfl, Blk.new W 29 _⟩) ?_
  refine Each.callLoose 108 107 (vset (a ||| (b ||| c))) 20 (by kernel_rfl) (by kernel_rfl) (by kernel_rfl) (by kernel_rfl) (by kernel_rfl) (by kernel_rfl) (by kernel_rfl) (by kernel_rfl) (fun _ _ => by kernel_rfl) (fun W x _ hx => u3_call hx) ?_
  refine Each.val 109 (.func (.func 40) #[] #[]) (by kernel_rfl) (by kernel_rfl) (by kernel_rfl) hN (fun _ _ _ => by kernel_rfl) ?_
  refine Each.val 110 (vset a) (by kernel_rfl) (by kernel_rfl) (by kernel_rfl) hN (fun _ hS _ => ex_load rfl (by kernel_rfl) hS.2.1) ?_
  refine Each.val 111 (.func (.func 40) #[] #[]) (by kernel_rfl) (by kernel_rfl) (by kernel_rfl) hN (fun _ _ _ => by kernel_rfl) ?_
  refine Each.val 112 (vset b) (by kernel_rfl) (by kernel_rfl) (by kernel_rfl) hN (fun _ hS _ => ex_load rfl (by kernel_rfl) hS.2.2.1) ?_
  refine Each.val 113 (vset c) (by kernel_rfl) (by kernel_rfl) (by kernel_rfl) hN (fun _ hS _ => ex_load rfl (by kernel_rfl) hS.2.2.2) ?_
  refine Each.call 114 (vset (b ||| c)) 40 #[vset b, vset c] (by kernel_rfl) (by kernel_rfl) (by kernel_rfl) (fun _ _ => by kernel_rfl) (fun W _ => jcE (by first | with_reducible rfl | exact bl1 a b c | exact bl2 a b c | exact bl3 a b c | exact bl4 a b | exact bl5 a b c | exact bl6 a b c | exact bl7 a b) W) ?_
  refine Each.call 115 (vset (a ||| (b ||| c))) 40 #[vset a, vset (b ||| c)] (by kernel_rfl) (by kernel_rfl) (by kernel_rfl) (fun _ _ => by kernel_rfl) (fun W _ => jcE (by first | with_reducible rfl | exact bl1 a b c | exact bl2 a b c | exact bl3 a b c | exact bl4 a b | exact bl5 a b c | exact bl6 a b c | exact bl7 a b) W) ?_
  refine Each.val 116 (.bool true) (by kernel_rfl) (by kernel_rfl) (by kernel_rfl) hN (fun _ _ _ => ex_eqT (s := a ||| (b ||| c)) (t := a ||| (b ||| c)) rfl (by kernel_rfl) (by kernel_rfl) (by simp)) ?_
  refine Each.val 117 (.bool true) (by kernel_rfl) (by kernel_rfl) (by kernel_rfl) hN (fun _ _ _ => by kernel_rfl) ?_
  refine Each.val 118 (.bool true) (by kernel_rfl) (by kernel_rfl) (by kernel_rfl) hN (fun _ _ _ => by kernel_rfl) ?_
  refine Each.val 119 (vset a) (by kernel_rfl) (by kernel_rfl) (by kernel_rfl) hN (fun _ hS _ => ex_load rfl (by kernel_rfl) hS.2.1) ?_
  refine Each.val 120 (.func (.func 40) #[] #[]) (by kernel_rfl) (by kernel_rfl) (by kernel_rfl) hN (fun _ _ _ => by kernel_rfl) ?_
  refine Each.val 121 (vset b) (by kernel_rfl) (by kernel_rfl) (by kernel_rfl) hN (fun _ hS _ => ex_load rfl (by kernel_rfl) hS.2.2.1) ?_
  refine Each.val 122 (vset c) (by kernel_rfl) (by kernel_rfl) (by kernel_rfl) hN (fun _ hS _ => ex_load rfl (by kernel_rfl) hS.2.2.2) ?_
  refine Each.call 123 (vset (b ||| c)) 40 #[vset b, vset c] (by kernel_rfl) (by kernel_rfl) (by kernel_rfl) (fun _ _ => by kernel_rfl) (fun W _ => jcE (by first | with_reducible rfl | exact bl1 a b c | exact bl2 a b c | exact bl3 a b c | exact bl4 a b | exact bl5 a b c | exact bl6 a b c | exact bl7 a b) W) ?_
  refine Each.call 124 (vset (a &&& ~~~(b ||| c))) 28 #[vset a, vset (b ||| c)] (by kernel_rfl) (by kernel_rfl) (by kernel_rfl) (fun _ _ => by kernel_rfl) (fun W _ => wcE (by first | with_reducible rfl | exact bl1 a b c | exact bl2 a b c | exact bl3 a b c | exact bl4 a b | exact bl5 a b c | exact bl6 a b c | exact bl7 a b) W) ?_
  refine Each.val 125 (.func (.func 26) #[] #[]) (by kernel_rfl) (by kernel_rfl) (by kernel_rfl) hN (fun _ _ _ => by kernel_rfl) ?_
  refine Each.val 126 (vset a) (by kernel_rfl) (by kernel_rfl) (by kernel_rfl) hN (fun _ hS _ => ex_load rfl (by kernel_rfl) hS.2.1) ?_
  refine Each.val 127 (vset b) (by kernel_rfl) (by kernel_rfl) (by kernel_rfl) hN (fun _ hS _ => ex_load rfl (by kernel_rfl) hS.2.2.1) ?_
  refine Each.call 128 (vset (a &&& ~~~b)) 28 #[vset a, vset b] (by kernel_rfl) (by kernel_rfl) (by kernel_rfl) (fun _ _ => by kernel_rfl) (fun W _ => wcE (by first | with_reducible rfl | exact bl1 a b c | exact bl2 a b c | exact bl3 a b c | exact bl4 a b | exact bl5 a b c | exact bl6 a b c | exact bl7 a b) W) ?_
  refine Each.val 129 (vset a) (by kernel_rfl) (by kernel_rfl) (by kernel_rfl) hN (fun _ hS _ => ex_load rfl (by kernel_rfl) hS.2.1) ?_
  refine Each.val 130 (vset c) (by kernel_rfl) (by kernel_rfl) (by kernel_rfl) hN (fun _ hS _ => ex_load rfl (by kernel_rfl) hS.2.2.2) ?_
  refine Each.call 131 (vset (a &&& ~~~c)) 28 #[vset a, vset c] (by kernel_rfl) (by kernel_rfl) (by kernel_rfl) (fun _ _ => by kernel_rfl) (fun W _ => wcE (by first | with_reducible rfl | exact bl1 a b c | exact bl2 a b c | exact bl3 a b c | exact bl4 a b | exact bl5 a b c | exact bl6 a b c | exact bl7 a b) W) ?_
  refine Each.call 132 (vset (a &&& ~~~(b ||| c))) 26 #[vset (a &&& ~~~b), vset (a &&& ~~~c)] (by kernel_rfl) (by kernel_rfl) (by kernel_rfl) (fun _ _ => by kernel_rfl) (fun W _ => mcE (by first | with_reducible rfl | exact bl1 a b c | exact bl2 a b c | exact bl3 a b c | exact bl4 a b | exact bl5 a b c | exact bl6 a b c | exact bl7 a b) W) ?_
  refine Each.val 133 (.bool true) (by kernel_rfl) (by kernel_rfl) (by kernel_rfl) hN (fun _ _ _ => ex_eqT (s := a &&& ~~~(b ||| c)) (t := a &&& ~~~(b ||| c)) rfl (by kernel_rfl) (by kernel_rfl) (by simp)) ?_
  refine Each.val 134 (.bool true) (by kernel_rfl) (by kernel_rfl) (by kernel_rfl) hN (fun _ _ _ => by kernel_rfl) ?_
  refine Each.val 135 (.bool true) (by kernel_rfl) (by kernel_rfl) (by kernel_rfl) hN (fun _ _ _ => by kernel_rfl) ?_
  refine Each.val 136 (vset a) (by kernel_rfl) (by kernel_rfl) (by kernel_rfl) hN (fun _ hS _ => ex_load rfl (by kernel_rfl) hS.2.1) ?_
  refine Each.val 137 (vset b) (by kernel_rfl) (by kernel_rfl) (by kernel_rfl) hN (fun _ hS _ => ex_load rfl (by kernel_rfl) hS.2.2.1) ?_
  refine Each.call 138 (.bool true) 30 #[vset a, vset b] (by kernel_rfl) (by kernel_rfl) (by kernel_rfl) (fun _ _ => by kernel_rfl) (fun W _ => icE hp W) ?_
  refine Each.val 139 (.bool false) (by kernel_rfl) (by kernel_rfl) (by kernel_rfl) hN (fun _ _ _ => by kernel_rfl) ?_
  refine Each.val 140 (.bool false) (by kernel_rfl) (by kernel_rfl) (by kernel_rfl) hN (fun _ _ _ => by kernel_rfl) ?_
  refine Each.val 141 (vset b) (by kernel_rfl) (by kernel_rfl) (by kernel_rfl) hN (fun _ hS _ => ex_load rfl (by kernel_rfl) hS.2.2.1) ?_
  refine Each.val 142 (vset c) (by kernel_rfl) (by kernel_rfl) (by kernel_rfl) hN (fun _ hS _ => ex_load rfl (by kernel_rfl) hS.2.2.2) ?_
  refine Each.call 143 (.bool true) 30 #[vset b, vset c] (by kernel_rfl) (by kernel_rfl) (by kernel_rfl) (fun _ _ => by kernel_rfl) (fun W _ => icE hr W) ?_
  refine Each.val 144 (.bool false) (by kernel_rfl) (by kernel_rfl) (by kernel_rfl) hN (fun _ _ _ => by kernel_rfl) ?_
  refine Each.val 145 (.bool false) (by kernel_rfl) (by kernel_rfl) (by kernel_rfl) hN (fun _ _ _ => by kernel_rfl) ?_
  refine Each.val 146 (.bool false) (by kernel_rfl) (by kernel_rfl) (by kernel_rfl) hN (fun _ _ _ => by kernel_rfl) ?_
  refine Each.val 147 (vset a) (by kernel_rfl) (by kernel_rfl) (by kernel_rfl) hN (fun _ hS _ => ex_load rfl (by kernel_rfl) hS.2.1) ?_
  refine Each.val 148 (vset c) (by kernel_rfl) (by kernel_rfl) (by kernel_rfl) hN (fun _ hS _ => ex_load rfl (by kernel_rfl) hS.2.2.2) ?_
  refine Each.call 149 (.bool true) 30 #[vset a, vset c] (by kernel_rfl) (by kernel_rfl) (by kernel_rfl) (fun _ _ => by kernel_rfl) (fun W _ => icE hac W) ?_
  refine Each.val 150 (.bool true) (by kernel_rfl) (by kernel_rfl) (by kernel_rfl) hN (fun _ _ _ => by kernel_rfl) ?_
  refine Each.val 151 (.bool true) (by kernel_rfl) (by kernel_rfl) (by kernel_rfl) hN (fun _ _ _ => by kernel_rfl) ?_
  refine Each.val 152 (.bool true) (by kernel_rfl) (by kernel_rfl) (by kernel_rfl) hN (fun _ _ _ => by kernel_rfl) ?_
  refine Each.val 153 (vset a) (by kernel_rfl) (by kernel_rfl) (by kernel_rfl) hN (fun _ hS _ => ex_load rfl (by kernel_rfl) hS.2.1) ?_
  refine Each.val 154 (vset b) (by kernel_rfl) (by kernel_rfl) (by kernel_rfl) hN (fun _ hS _ => ex_load rfl (by kernel_rfl) hS.2.2.1) ?_
  refine Each.call 155 (.bool true) 30 #[vset a, vset b] (by kernel_rfl) (by kernel_rfl) (by kernel_rfl) (fun _ _ => by kernel_rfl) (fun W _ => icE hp W) ?_
  refine Each.val 156 (.bool true) (by kernel_rfl) (by kernel_rfl) (by kernel_rfl) hN (fun _ _ _ => by kernel_rfl) ?_
  refine Each.val 157 (vset b) (by kernel_rfl) (by kernel_rfl) (by kernel_rfl) hN (fun _ hS _ => ex_load rfl (by kernel_rfl) hS.2.2.1) ?_
  refine Each.val 158 (vset a) (by kernel_rfl) (by kernel_rfl) (by kernel_rfl) hN (fun _ hS _ => ex_load rfl (by kernel_rfl) hS.2.1) ?_
  refine Each.call 159 (.bool q) 30 #[vset b, vset a] (by kernel_rfl) (by kernel_rfl) (by kernel_rfl) (fun _ _ => by kernel_rfl) (fun W _ => icE hq W) ?_
  refine Each.val 160 (.bool q) (by kernel_rfl) (by kernel_rfl) (by kernel_rfl) hN (fun _ _ _ => by kernel_rfl) ?_
  refine Each.val 161 (vset a) (by kernel_rfl) (by kernel_rfl) (by kernel_rfl) hN (fun _ hS _ => ex_load rfl (by kernel_rfl) hS.2.1) ?_
  refine Each.val 162 (vset b) (by kernel_rfl) (by kernel_rfl) (by kernel_rfl) hN (fun _ hS _ => ex_load rfl (by kernel_rfl) hS.2.2.1) ?_
  refine Each.val 163 (.bool q) (by kernel_rfl) (by kernel_rfl) (by kernel_rfl) hN (fun _ _ _ => ex_eqT (s := a) (t := b) rfl (by kernel_rfl) (by kernel_rfl) hab) ?_
  refine Each.val 164 (.bool true) (by kernel_rfl) (by kernel_rfl) (by kernel_rfl) hN (fun _ _ _ => ex_eqBT (s := q) (t := q) rfl (by kernel_rfl) (by kernel_rfl) (by simp)) ?_
  refine Each.val 165 (.bool true) (by kernel_rfl) (by kernel_rfl) (by kernel_rfl) hN (fun _ _ _ => by kernel_rfl) ?_
  refine Each.val 166 (.bool true) (by kernel_rfl) (by kernel_rfl) (by kernel_rfl) hN (fun _ _ _ => by kernel_rfl) ?_
  refine Each.call 167 (.bool true) 10 #[] (by kernel_rfl) (by kernel_rfl) (by kernel_rfl) (fun _ _ => by kernel_rfl) (fun W hS => works_any _ (hG.below (Nat.le_refl _) hS.1)) ?_
  refine Each.val 168 (.bool true) (by kernel_rfl) (by kernel_rfl) (by kernel_rfl) hN (fun _ _ _ => by kernel_rfl) ?_
  refine Each.val 6 (.bool true) (by kernel_rfl) (by kernel_rfl) (by kernel_rfl) hN (fun _ _ _ => by kernel_rfl) ?_
  exact trivial

/-- The law, whole. -/
theorem lawLaws (a b c : BS) (w : World) (hG : Glob w) : Calls Tryd.prog 8 #[vset a, vset b, vset c] w fun e w' => e = .returned (.bool true) ∧ Below w.heap.size w w' := by
  cases hp : (a &&& b == a) with
  | false => exact lawLawsA a b c w hG hp
  | true =>
    cases hr : (b &&& c == b) with
    | false => exact lawLawsB a b c w hG hp hr
    | true => exact lawLawsC a b c w hG hp hr
end Go.Proofs.YtegmoeeeomjkgaaDoor
