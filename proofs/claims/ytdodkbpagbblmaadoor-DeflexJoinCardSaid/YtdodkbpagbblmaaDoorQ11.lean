import Derived.Defers
import Derived.Recover
import Derived.Test.YtdodkbpagbblmaaDoorQ10
namespace Go.Proofs.YtdodkbpagbblmaaDoor
open Go Go.RowKit

set_option maxRecDepth 100000 in
set_option maxHeartbeats 1000000 in
theorem caught_any (p : Addr) (x : Int) (older : List PanicEntry) (w : World) (hc : w.cell? p = some (.int .i64 x)) (hz : w.frozen? p = false) :
    CallsD Tryd.prog 30 #[.pointer (some p)] (.panicking ({ v := .iface 64 (.agg #[.int .i64 130]), recovered := false } :: older)) w fun e u' w' =>
      e = .returned (.tuple #[]) ∧ u' = .panicking ({ v := .iface 64 (.agg #[.int .i64 130]), recovered := true } :: older) ∧ w' = w.setCell p (.int .i64 130) := by
  refine callsD_of_wpS Tryd.func30 rfl fun c₀ cs hu => ?_
  apply wpS_seq
  apply wpS_region
  simp [wpOpsS, go_sem, recoverD, hu, Tryd.ntmps30, Exit.thenS]
  rw [show (#[Value.pointer (some p)] ++ ((Array.replicate 7 undef).setIfInBounds 1 (.iface 64 (.agg #[.int .i64 130]))).setIfInBounds 0 (.iface 64 (.agg #[.int .i64 130]))) = #[.pointer (some p), .iface 64 (.agg #[.int .i64 130]), .iface 64 (.agg #[.int .i64 130]), undef, undef, undef, undef, undef] from rfl]
  refine wpS_of_wp ?_
  have hta : ∀ w : World, (Instr.typeAssert (.iface 64 (.agg #[.int .i64 130])) 20 64 false).run Tryd.prog w = .ok (.agg #[.int .i64 130]) w := fun w => by kernel_rfl
  have hfd : ∀ w : World, (Instr.field 64 (.agg #[.int .i64 130]) 0).run Tryd.prog w = .ok (.int .i64 130) w := fun w => by kernel_rfl
  go_wp2
  cases c₀
  simp_all [bodyPostS, results, Tryd.results30]

theorem idle_any (p : Addr) (w : World) :
    CallsD Tryd.prog 30 #[.pointer (some p)] .returning w fun e u' w' => e = .returned (.tuple #[]) ∧ u' = .returning ∧ w' = w := by
  refine callsD_of_wpS Tryd.func30 rfl fun c₀ cs hu => ?_
  apply wpS_seq
  apply wpS_region
  simp [wpOpsS, go_sem, recoverD, hu, Tryd.ntmps30, Exit.thenS]
  rw [show (#[Value.pointer (some p)] ++ ((Array.replicate 7 undef).setIfInBounds 1 Value.nilIface).setIfInBounds 0 Value.nilIface) = #[.pointer (some p), .nilIface, .nilIface, undef, undef, undef, undef, undef] from rfl]
  refine wpS_of_wp ?_
  go_wp2
  cases c₀
  simp_all [bodyPostS, results, Tryd.results30]

theorem upto_eq {t : ByteArray} {a b : Nat} (h : a = b) (W : World) (B : Nat) : Rdr W B t a → Rdr W B t b := by rw [h]; exact id

/-- What a step, taken, leaves: a word, the end, or the place of what can't be read. -/
def TakeP (B : Nat) (t : ByteArray) (k : Nat) (w : World) (e : Ending) (w' : World) : Prop :=
  w.grownBy w' (some B) ∧ (if k = t.size then e = .returned (.tuple #[wordV noWd 0, .bool false, .int .i64 0]) ∧ Rdr w' B t k
    else match nextW (t.data.toList.drop k) with
    | some p => e = .returned (.tuple #[wordV p.1 k, .bool true, .int .i64 0]) ∧ Rdr w' B t (k + p.2)
    | none => e = .returned (.tuple #[wordV noWd 0, .bool false, .int .i64 130]) ∧ Rdr w' B t k)

theorem store8 {W : World} {Z T : Nat} {a0 a1 a2 a3 a4 a5 a6 a7 : Value} (h : Blk W Z T #[a0, a1, a2, a3, a4, a5, a6, a7]) (v0 v1 v2 v3 v4 v5 v6 v7 : Value) :
    Blk ((((((((W.setCell ⟨Z, 0, none⟩ v0).setCell ⟨Z, 1, none⟩ v1).setCell ⟨Z, 2, none⟩ v2).setCell ⟨Z, 3, none⟩ v3).setCell ⟨Z, 4, none⟩ v4).setCell ⟨Z, 5, none⟩ v5).setCell ⟨Z, 6, none⟩ v6).setCell ⟨Z, 7, none⟩ v7) Z T #[v0, v1, v2, v3, v4, v5, v6, v7] := by
  have h0 : Blk _ Z T #[v0, a1, a2, a3, a4, a5, a6, a7] := h.set 0 v0
  have h1 : Blk _ Z T #[v0, v1, a2, a3, a4, a5, a6, a7] := h0.set 1 v1
  have h2 : Blk _ Z T #[v0, v1, v2, a3, a4, a5, a6, a7] := h1.set 2 v2
  have h3 : Blk _ Z T #[v0, v1, v2, v3, a4, a5, a6, a7] := h2.set 3 v3
  have h4 : Blk _ Z T #[v0, v1, v2, v3, v4, a5, a6, a7] := h3.set 4 v4
  have h5 : Blk _ Z T #[v0, v1, v2, v3, v4, v5, a6, a7] := h4.set 5 v5
  have h6 : Blk _ Z T #[v0, v1, v2, v3, v4, v5, v6, a7] := h5.set 6 v6
  exact h6.set 7 v7
theorem store8o {W : World} {Z E T : Nat} {cs : Array Value} (h : Blk W E T cs) (hne : ¬ E = Z) (v0 v1 v2 v3 v4 v5 v6 v7 : Value) :
    Blk ((((((((W.setCell ⟨Z, 0, none⟩ v0).setCell ⟨Z, 1, none⟩ v1).setCell ⟨Z, 2, none⟩ v2).setCell ⟨Z, 3, none⟩ v3).setCell ⟨Z, 4, none⟩ v4).setCell ⟨Z, 5, none⟩ v5).setCell ⟨Z, 6, none⟩ v6).setCell ⟨Z, 7, none⟩ v7) E T cs :=
  (((((((h.other (a := ⟨Z, 0, none⟩) hne _).other (a := ⟨Z, 1, none⟩) hne _).other (a := ⟨Z, 2, none⟩) hne _).other (a := ⟨Z, 3, none⟩) hne _).other (a := ⟨Z, 4, none⟩) hne _).other (a := ⟨Z, 5, none⟩) hne _).other (a := ⟨Z, 6, none⟩) hne _).other (a := ⟨Z, 7, none⟩) hne _
theorem res14 (W : World) (Z E : Nat) (x : Wd) (n : Int) (bb : Value) (e : Int) (a : Array Value) (h2 : a[2]? = some (.pointer (some ⟨Z, 0, none⟩))) (h3 : a[3]? = some bb) (h4 : a[4]? = some (.pointer (some ⟨E, 0, none⟩)))
    (hz : Blk W Z 38 (wordC x n)) (he : W.cell? ⟨E, 0, none⟩ = some (.int .i64 e)) : (results Tryd.f14 a).run Tryd.prog W = .ok (.tuple #[wordV x n, bb, .int .i64 e]) W := by
  have z0 : W.cell? ⟨Z, 0, none⟩ = some (.int .i64 x.kind) := hz.cell 0
  have z1 : W.cell? ⟨Z, 1, none⟩ = some (.int .i64 n) := hz.cell 1
  have z2 : W.cell? ⟨Z, 2, none⟩ = some (.string x.txt) := hz.cell 2
  have z3 : W.cell? ⟨Z, 3, none⟩ = some (.int .u64 (wdI x.set 0)) := hz.cell 3
  have z4 : W.cell? ⟨Z, 4, none⟩ = some (.int .u64 (wdI x.set 1)) := hz.cell 4
  have z5 : W.cell? ⟨Z, 5, none⟩ = some (.int .u64 (wdI x.set 2)) := hz.cell 5
  have z6 : W.cell? ⟨Z, 6, none⟩ = some (.int .u64 (wdI x.set 3)) := hz.cell 6
  have z7 : W.cell? ⟨Z, 7, none⟩ = some (.int .i64 x.num) := hz.cell 7
  simp [results, Tryd.results14, go_sem, wordV, wordC, h2, h3, h4, z0, z1, z2, z3, z4, z5, z6, z7, he]

set_option maxRecDepth 100000 in
set_option maxHeartbeats 4000000 in
theorem taken_any (B : Nat) (t : ByteArray) (k : Nat) (ht : t.size ≤ 1048576) (hk : k ≤ t.size) (w : World) (hG : GlobD w) (hB : Rdr w B t k) (hB4 : 4 < B) :
    Calls Tryd.prog 14 #[.func (.func 13) #[.pointer (some ⟨B, 0, none⟩)] #[]] w (TakeP B t (k + skipL (t.data.toList.drop k)) w) := by
  have hmf : ∀ (fn : Fn) (first cap : Array Value) (w : World), (Instr.makeFunc fn first cap).run Tryd.prog w = .ok (.func fn first cap) w := fun _ _ _ _ => rfl
  have hA0 : Below w.heap.size w ((w.alloc (.cells #[.int .i64 0, .int .i64 0, .string ⟨#[]⟩, .int .u64 0, .int .u64 0, .int .u64 0, .int .u64 0, .int .i64 0] 38)).alloc (.cells #[.int .i64 0] 24)) := ((Below.refl _ w).alloc (Nat.le_refl _) _).alloc (by simp) _
  have hBa := Blk.below hB hA0 hB.lt
  have hz0 : Blk ((w.alloc (.cells #[.int .i64 0, .int .i64 0, .string ⟨#[]⟩, .int .u64 0, .int .u64 0, .int .u64 0, .int .u64 0, .int .i64 0] 38)).alloc (.cells #[.int .i64 0] 24)) w.heap.size 38 #[.int .i64 0, .int .i64 0, .string ⟨#[]⟩, .int .u64 0, .int .u64 0, .int .u64 0, .int .u64 0, .int .i64 0] := (Blk.new w 38 _).alloc _
  have he0 : Blk ((w.alloc (.cells #[.int .i64 0, .int .i64 0, .string ⟨#[]⟩, .int .u64 0, .int .u64 0, .int .u64 0, .int .u64 0, .int .i64 0] 38)).alloc (.cells #[.int .i64 0] 24)) (w.heap.size + 1) 24 #[.int .i64 0] := by
    have := Blk.new (w.alloc (.cells #[.int .i64 0, .int .i64 0, .string ⟨#[]⟩, .int .u64 0, .int .u64 0, .int .u64 0, .int .u64 0, .int .i64 0] 38)) 24 #[.int .i64 0]
    rw [World.size_alloc] at this
    exact this
  have HN := Lib.hid (next_any B t k ht hk _ (hG.below (Nat.le_refl _) hA0) hBa hB4)
  have hne := hB.lt
  obtain ⟨m, hm⟩ : ∃ m, m = k + skipL (t.data.toList.drop k) := ⟨_, rfl⟩
  rw [← hm] at HN ⊢
  have HA0 := Lib.hid hA0
  have HZ0 := Lib.hid hz0
  have HE0 := Lib.hid he0
  clear hm hB hBa hA0 hz0 he0 hG
  go_enter_defers Tryd.func14, Tryd.ntmps14
  go_wp2_with fail
  refine HN.out.mono ?_
  rintro e w1 ⟨hg1, h1⟩
  have hz1 := HZ0.out.kept hg1 (by simp; omega)
  have he1 := HE0.out.kept hg1 (by simp; omega)
  have hg : w.grownBy w1 (some B) := (grown_of_below' HA0.out (some B)).andThen hg1 (fun _ e => .inr e)
  have HG1 := Lib.hid hg
  have hszz := hg1.size
  simp only [World.size_alloc] at hszz
  have z0 : w1.cell? ⟨w.heap.size, 0, none⟩ = some (.int .i64 0) := hz1.cell 0
  have z1 : w1.cell? ⟨w.heap.size, 1, none⟩ = some (.int .i64 0) := hz1.cell 1
  have z2 : w1.cell? ⟨w.heap.size, 2, none⟩ = some (.string ⟨#[]⟩) := hz1.cell 2
  have z3 : w1.cell? ⟨w.heap.size, 3, none⟩ = some (.int .u64 0) := hz1.cell 3
  have z4 : w1.cell? ⟨w.heap.size, 4, none⟩ = some (.int .u64 0) := hz1.cell 4
  have z5 : w1.cell? ⟨w.heap.size, 5, none⟩ = some (.int .u64 0) := hz1.cell 5
  have z6 : w1.cell? ⟨w.heap.size, 6, none⟩ = some (.int .u64 0) := hz1.cell 6
  have z7 : w1.cell? ⟨w.heap.size, 7, none⟩ = some (.int .i64 0) := hz1.cell 7
  have zf := hz1.frozen
  have zl := hz1.lt
  have ef := he1.frozen
  have el := he1.lt
  have e0 : w1.cell? ⟨w.heap.size + 1, 0, none⟩ = some (.int .i64 0) := he1.cell 0
  have e5 : w.heap.size ≤ w.heap.size := Nat.le_refl _
  have e6 : w.heap.size ≤ w.heap.size + 1 := by omega
  have e7 : ¬ B = w.heap.size := by omega
  have e8 : ¬ B = w.heap.size + 1 := by omega
  have HZ1 := Lib.hid hz1
  have HE1 := Lib.hid he1
  clear hz1 he1 hg1 hg HA0 HZ0 HE0 HN
  have e9 : ¬ w.heap.size = w.heap.size + 1 := by omega
  have e9' : ¬ w.heap.size + 1 = w.heap.size := by omega
  by_cases hend : m = t.size
  · rw [if_pos hend] at h1
    obtain ⟨rfl, hr1⟩ := h1
    have HR1 := Lib.hid hr1
    have HQ : Hid (∀ e w', (w.grownBy w' (some B) ∧ e = .returned (.tuple #[wordV noWd 0, .bool false, .int .i64 0]) ∧ Rdr w' B t m) → TakeP B t m w e w') := Lib.hid (fun e w' h => by unfold TakeP; rw [if_pos hend]; exact h)
    clear hend hr1
    unfold wordV wordC noWd
    go_wp2
    refine leaves_cons (f := 30) (args := #[.pointer (some ⟨w.heap.size + 1, 0, none⟩)]) (by simp) (by simp [go_sem]) ?_
    refine (idle_any _ _).mono ?_
    rintro e u' w'' ⟨rfl, rfl, rfl⟩
    refine ⟨.tuple #[wordV noWd 0, .bool false, .int .i64 0], res14 _ _ _ noWd 0 (.bool false) 0 _ rfl rfl rfl ((store8 (store8 HZ1.out _ _ _ _ _ _ _ _) _ _ _ _ _ _ _ _).other e9 _) (((store8o (store8o HE1.out e9' _ _ _ _ _ _ _ _) e9' _ _ _ _ _ _ _ _).set 0 (.int .i64 0)).cell 0), ?_⟩
    refine HQ.out _ _ ⟨?_, rfl, ?_⟩
    · repeat (first | with_reducible exact HG1.out | with_reducible refine grown_drew ?_ | with_reducible refine grown_new ?_ (by assumption) _ _)
    · repeat (first | with_reducible exact HR1.out | with_reducible refine Blk.drew ?_ | with_reducible refine Blk.other ?_ (by assumption) _)
  · rw [if_neg hend] at h1
    cases hnw : nextW (t.data.toList.drop m) with
    | some pr =>
      rw [hnw] at h1
      obtain ⟨rfl, hr1⟩ := h1
      have HR1 := Lib.hid hr1
      have HQ : Hid (∀ e w', (w.grownBy w' (some B) ∧ e = .returned (.tuple #[wordV pr.1 m, .bool true, .int .i64 0]) ∧ Rdr w' B t (m + pr.2)) → TakeP B t m w e w') := Lib.hid (fun e w' h => by unfold TakeP; rw [if_neg hend, hnw]; exact h)
      clear hend hr1 hnw
      unfold wordV wordC
      go_wp2
      refine leaves_cons (f := 30) (args := #[.pointer (some ⟨w.heap.size + 1, 0, none⟩)]) (by simp) (by simp [go_sem]) ?_
      refine (idle_any _ _).mono ?_
      rintro e u' w'' ⟨rfl, rfl, rfl⟩
      refine ⟨.tuple #[wordV pr.1 m, .bool true, .int .i64 0], res14 _ _ _ pr.1 m (.bool true) 0 _ rfl rfl rfl ((store8 (store8 HZ1.out _ _ _ _ _ _ _ _) _ _ _ _ _ _ _ _).other e9 _) (((store8o (store8o HE1.out e9' _ _ _ _ _ _ _ _) e9' _ _ _ _ _ _ _ _).set 0 (.int .i64 0)).cell 0), ?_⟩
      refine HQ.out _ _ ⟨?_, rfl, ?_⟩
      · repeat (first | with_reducible exact HG1.out | with_reducible refine grown_drew ?_ | with_reducible refine grown_new ?_ (by assumption) _ _)
      · repeat (first | with_reducible exact HR1.out | with_reducible refine Blk.drew ?_ | with_reducible refine Blk.other ?_ (by assumption) _)
    | none =>
      rw [hnw] at h1
      obtain ⟨rfl, hr1⟩ := h1
      have HR1 := Lib.hid hr1
      have HQ : Hid (∀ e w', (w.grownBy w' (some B) ∧ e = .returned (.tuple #[wordV noWd 0, .bool false, .int .i64 130]) ∧ Rdr w' B t m) → TakeP B t m w e w') := Lib.hid (fun e w' h => by unfold TakeP; rw [if_neg hend, hnw]; exact h)
      clear hend hr1 hnw
      go_wp2
      refine leaves_cons (f := 30) (args := #[.pointer (some ⟨w.heap.size + 1, 0, none⟩)]) (by simp) (by simp [go_sem]) ?_
      unfold gone
      refine (caught_any ⟨w.heap.size + 1, 0, none⟩ 0 [] _ e0 (ef 0)).mono ?_
      rintro e u' w'' ⟨rfl, rfl, rfl⟩
      simp only [Leaves, settle]
      refine ⟨.tuple #[wordV noWd 0, .bool false, .int .i64 130], by simp [results, Tryd.results14, go_sem, wordV, wordC, noWd, wz.1, wz.2.1, wz.2.2.1, wz.2.2.2, z0, z1, z2, z3, z4, z5, z6, z7, zf, zl, ef, el, e0, e9, e9'], ?_⟩
      refine HQ.out _ _ ⟨?_, rfl, ?_⟩
      · repeat (first | with_reducible exact HG1.out | with_reducible refine grown_drew ?_ | with_reducible refine grown_new ?_ (by assumption) _ _)
      · repeat (first | with_reducible exact HR1.out | with_reducible refine Blk.drew ?_ | with_reducible refine Blk.other ?_ (by assumption) _)
end Go.Proofs.YtdodkbpagbblmaaDoor
