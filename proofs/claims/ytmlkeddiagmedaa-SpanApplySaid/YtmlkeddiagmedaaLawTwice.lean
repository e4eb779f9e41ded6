import Derived.Test.YtmlkeddiagmedaaTwice0
import Derived.Deep.LoopGhost
namespace Go.Proofs.Ytmlkeddiagmedaa
open Go.RowKit

def lawPost4 (w : World) (e : Ending) (w' : World) : Prop := e = .returned (.bool true) ∧ Below w.heap.size w w'

theorem infoBool : (Try.prog.info? 4).map (fun i => (i.zero, i.size, i.bytes)) = some (some (.bool false), 1, 1) := by kernel_rfl

set_option maxHeartbeats 1000000 in
theorem lawTwice_long (s : ByteArray) (a : Option Addr) (cap : Nat) (d : List Ed) (w : World) (hd : RowEd w a d) (h : LongP s d) :
    Calls Try.prog 8 #[.string s, .slice a d.length cap] w (lawPost4 w) := by
  have HL := Lib.hid (long_any s a cap d w hd)
  clear hd
  go_enter Try.func8, Try.ntmps8
  go_wp2_with fail
  refine HL.out.mono ?_
  rintro e w' ⟨rfl, ⟨_, rfl⟩ | ⟨hno, _⟩⟩
  · go_wp2_with fail
    refine (known_any _).mono ?_
    rintro e w' ⟨rfl, hB⟩
    go_wp2
    go_ret
    exact ⟨rfl, hB⟩
  · exact absurd h hno

theorem made_false (n : Nat) : (madeCells #[Value.bool false] n).toList = (List.replicate n false).map Value.bool := by
  apply List.ext_getElem?
  intro i
  by_cases h : i < n
  · simp [madeCells, h, Nat.mod_one]
  · simp [madeCells, h]

/-- What the inner loop has found among the first k. -/
def BestP (d : List Ed) (dn : List Bool) (k : Nat) (q : Value) : Prop :=
  (q = .int .i64 (-1) ∧ ∀ j, j < k → dn[j]? = some true) ∨
  ∃ (b : Nat) (x : Ed), q = .int .i64 b ∧ b < k ∧ d[b]? = some x ∧ dn[b]? = some false ∧ ∀ (j : Nat) (y : Ed), j < k → d[j]? = some y → dn[j]? = some false → ¬ laterP x y

theorem ownsRow_below {w w' : World} {base e size n N g cap : Nat} {xs : List Value} (h : w.ownsRow base e size (.slice (some ⟨g, 0, none⟩) n cap) n xs) (hb : Below N w w') (hg : g < N) : w'.ownsRow base e size (.slice (some ⟨g, 0, none⟩) n cap) n xs := by
  obtain ⟨h1, ⟨h2, _⟩ | ⟨g', cap', cur, h2, h3, h4, h5⟩⟩ := h
  · cases h2
  · cases h2
    exact ⟨h1, .inr ⟨g, cap, cur, rfl, h3, (hb.block g hg).trans h4, h5⟩⟩

set_option maxRecDepth 100000 in
set_option maxHeartbeats 4000000 in
theorem lawTwice_any (s : ByteArray) (a : Option Addr) (cap : Nat) (d : List Ed) (w : World) (hd : RowEd w a d) (h : ¬ LongP s d) :
    Calls Try.prog 8 #[.string s, .slice a d.length cap] w (lawPost4 w) := by
  have hs : s.size ≤ 3000 := by unfold LongP at h; omega
  have hl : d.length ≤ 20 := by unfold LongP at h; omega
  have hsm : ∀ x ∈ d, x.2.2.size ≤ 3000 := fun x hx => by
    by_cases hc : 3000 < x.2.2.size
    · exact absurd (.inr (.inr ⟨x, hx, hc⟩)) h
    · omega
  have HL := Lib.hid (long_any s a cap d w hd)
  have HA := Lib.hid (apply_any s a cap d w 3000 (by omega) hd (by omega) hsm (by decide) (by omega))
  have HD := Lib.hid hd
  have HSM := Lib.hid hsm
  have HN := Lib.hid h
  clear hd hsm h
  obtain ⟨i0, hi, hz0, hz1, hz2⟩ := info_parts infoBool
  go_enter Try.func8, Try.ntmps8
  go_wp2_with fail
  refine HL.out.mono ?_
  rintro e w' ⟨rfl, ⟨hyes, _⟩ | ⟨_, rfl⟩⟩
  · exact absurd hyes HN.out
  clear HL
  go_wp2_with fail
  refine HA.out.mono ?_
  rintro e w1 ⟨hB1, hr⟩
  have herr : (∃ er : Int, (er == 0) = false ∧ e = .returned (.tuple #[.string ⟨#[]⟩, .int .i64 er])) ∨ ∃ sd : List Ed, (∀ x ∈ sd, goodEd s.size x) ∧ sd.Perm d ∧ ¬ Ovl sd ∧ e = .returned (.tuple #[.string ⟨(applyA s.data.toList sd).toArray⟩, .int .i64 0]) := by
    rcases hr with ⟨_, rfl⟩ | ⟨hg, sd, hp, _, ⟨_, rfl⟩ | ⟨hv, ⟨_, rfl⟩ | ⟨_, rfl⟩⟩⟩
    · exact .inl ⟨4, rfl, rfl⟩
    · exact .inl ⟨110, rfl, rfl⟩
    · exact .inl ⟨3, rfl, rfl⟩
    · exact .inr ⟨sd, fun x hx => hg x (hp.mem_iff.1 hx), hp, hv, rfl⟩
  clear hr HA
  rcases herr with ⟨er, her, rfl⟩ | ⟨sd, hgs, hp, hv, rfl⟩
  · have hs1 := hB1.size
    have HB1 := Lib.hid hB1
    clear hB1
    go_wp2_with fail
    refine (known_any _).mono ?_
    rintro e w2 ⟨rfl, hB2⟩
    have HB2 : Hid (Below w.heap.size w w2) := HB1.out.trans (hB2.mono hs1)
    clear hB2
    go_wp2
    go_ret
    exact ⟨rfl, HB2.out⟩
  · have hbs := bef_of_sorted s.size sd hgs hv
    have hsym := symBef_perm hbs hp
    have hgd : ∀ x ∈ d, goodEd s.size x := fun x hx => hgs x (hp.mem_iff.2 hx)
    obtain ⟨G, hG⟩ : ∃ G : ByteArray, G = ⟨(applyA s.data.toList sd).toArray⟩ := ⟨_, rfl⟩
    rw [← hG]
    have H := Lib.hid (And.intro hgs (And.intro hp (And.intro hbs (And.intro hsym (And.intro hgd hG)))))
    have hs1 := hB1.size
    have HB1 := Lib.hid hB1
    have HR1 := Lib.hid (HD.out.below hB1)
    clear hbs hsym hgd hG hgs hp hv hB1
    go_wp2_with (refine wpList_make_full _ rfl _ _ 53 rfl w.heap.size 4 i0 (.bool false) 1 Try.underlying53 hi hz0 hz1 .i64 .i64 _ _ d.length rfl rfl rfl rfl (by rw [hz2]; omega) (by unfold maxLen; omega) hs1 ?_)
    intro w2 hown hgrow
    have hB12 : Below w1.heap.size w1 w2 := (Below.refl _ _).grown hgrow (Nat.le_refl _) (fun k e => by cases e)
    have HR2 := Lib.hid (HR1.out.below hB12)
    have HB2 : Hid (Below w.heap.size w w2) := HB1.out.trans (hB12.mono hs1)
    rw [made_false] at hown
    have HO := Lib.hid hown
    clear hown hgrow hB12 HR1
    go_wp2_with fail
    go_loopw [7, 9] (fun q p wr => ∃ (i : Nat) (dn : List Bool) (ds : List Ed), p = .int .i64 i ∧ i ≤ d.length ∧ Hid (ds.length = i) ∧ Hid (Made d dn ds) ∧ q = .string ⟨(applyA s.data.toList ds).toArray⟩ ∧
        Hid (wr.ownsRow w.heap.size 4 1 (.slice (some ⟨w1.heap.size, 0, none⟩) d.length d.length) d.length (dn.map Value.bool)) ∧ Hid (RowEd wr a d) ∧ Hid (Below w.heap.size w wr))
      (fun _ p _ => d.length - (intOf p).toNat)
    case atStart => exact ⟨0, List.replicate d.length false, [], rfl, Nat.zero_le _, rfl, Made.start d, by simp [applyA, runA], HO, HR2, HB2⟩
    case round =>
      clear HO HR2 HB2
      obtain ⟨i, dn, ds, rfl, hi1, hds, hM, rfl, hO, hR, hB⟩ := hrel
      by_cases hlt : i < d.length
      · obtain ⟨wo, rfl⟩ : ∃ wo : World, wo = wr := ⟨_, rfl⟩
        have hdl := hM.out.len
        go_wp2_with fail
        have hcell : ∀ j m, dn[j]? = some m → wo.cell? ⟨w1.heap.size, j, none⟩ = some (.bool m) := by
          intro j m hm
          have hj := (List.getElem?_eq_some_iff.1 hm).1
          rw [hO.out.cellAt j (by omega), List.getElem?_map, hm]; rfl
        have HC := Lib.hid hcell
        clear hcell
        go_loopw [10, 11] (fun q p wk => ∃ k : Nat, p = .int .i64 k ∧ k ≤ d.length ∧ Hid (BestP d dn k q) ∧ Hid (∃ n, wk = wo.drewN n)) (fun _ p _ => d.length - (intOf p).toNat)
        case atStart => exact ⟨0, rfl, Nat.zero_le _, .inl ⟨rfl, fun j hj => by omega⟩, ⟨0, rfl⟩⟩
        case round =>
          obtain ⟨k, rfl, hk, hBP, hW⟩ := hrel
          by_cases hkl : k < d.length
          · obtain ⟨m, hm⟩ : ∃ m, dn[k]? = some m := ⟨dn[k], by simp [hdl, hkl]⟩
            obtain ⟨x, hx⟩ : ∃ x, d[k]? = some x := ⟨d[k], by simp [hkl]⟩
            obtain ⟨b0, off, rfl, x0, x1, x2⟩ := hR.out _ _ hx
            obtain ⟨nw, hnw⟩ := hW.out
            have cm : wr.cell? ⟨w1.heap.size, k, none⟩ = some (.bool m) := by rw [hnw]; exact HC.out k m hm
            have cx0 : wr.cell? ⟨b0, off + k * 3, none⟩ = some (.int .i64 x.1) := by rw [hnw]; exact x0
            have cx1 : wr.cell? ⟨b0, off + k * 3 + 1, none⟩ = some (.int .i64 x.2.1) := by rw [hnw]; exact x1
            have HM := Lib.hid hm
            have HX := Lib.hid hx
            clear x0 x1 x2 hm hx
            cases m with
            | true =>
              have hBP2 : Hid (BestP d dn (k + 1) u10) := by
                rcases hBP.out with ⟨hq, h1⟩ | ⟨b, y, hq, hb, hy, hyb, h1⟩
                · refine .inl ⟨hq, fun j hj => ?_⟩
                  by_cases h : j < k
                  · exact h1 j h
                  · obtain rfl : j = k := by omega
                    exact HM.out
                · refine .inr ⟨b, y, hq, by omega, hy, hyb, fun j z hj hz hzm => ?_⟩
                  by_cases h : j < k
                  · exact h1 j z h hz hzm
                  · obtain rfl : j = k := by omega
                    rw [HM.out] at hzm; cases hzm
              clear hnw
              go_wp2
              go_roundw
              case rel => exact ⟨k + 1, by go_num, by omega, hBP2, hW⟩
              case measure => simp [intOf]; omega
            | false =>
              clear hnw
              rcases hBP.out with ⟨rfl, h1⟩ | ⟨b, y, rfl, hb, hy, hyb, h1⟩
              · have hBP2 : Hid (BestP d dn (k + 1) (.int .i64 k)) := by
                  refine .inr ⟨k, x, rfl, by omega, HX.out, HM.out, fun j z hj hz hzm => ?_⟩
                  by_cases h : j < k
                  · rw [h1 j h] at hzm; cases hzm
                  · obtain rfl : j = k := by omega
                    rw [HX.out] at hz
                    cases hz
                    unfold laterP
                    omega
                clear h1 hBP
                go_wp2_with fail
                go_quiet (fail)
                go_wp2
                go_roundw
                case rel => exact ⟨k + 1, by go_num, by omega, hBP2, drewN_more hW.out _⟩
                case measure => simp [intOf]; omega
              · obtain ⟨b1, off1, hab, y0, y1, y2⟩ := hR.out _ _ hy
                cases hab
                obtain ⟨nw2, hnw2⟩ := hW.out
                have cy0 : wr.cell? ⟨b0, off + b * 3, none⟩ = some (.int .i64 y.1) := by rw [hnw2]; exact y0
                have cy1 : wr.cell? ⟨b0, off + b * 3 + 1, none⟩ = some (.int .i64 y.2.1) := by rw [hnw2]; exact y1
                have hbd : (b : Int) < (d.length : Int) := by omega
                have hb0 : (0 : Int) ≤ (b : Int) := Int.natCast_nonneg _
                have t0 : decide ((b : Int) < 0) = false := by simp
                have hkd : (k : Int) < (d.length : Int) := by omega
                clear y0 y1 y2 hnw2
                by_cases c1 : y.1 < x.1
                · have t1 : decide (y.1 < x.1) = true := by simpa using c1
                  have hBP2 : Hid (BestP d dn (k + 1) (.int .i64 k)) := by
                    refine .inr ⟨k, x, rfl, by omega, HX.out, HM.out, fun j z hj hz hzm => ?_⟩
                    by_cases h : j < k
                    · have := h1 j z h hz hzm
                      unfold laterP at this ⊢
                      omega
                    · obtain rfl : j = k := by omega
                      rw [HX.out] at hz
                      cases hz
                      unfold laterP
                      omega
                  clear h1 hBP hy hyb
                  go_wp2_with fail
                  go_quiet (fail)
                  clear t0 t1
                  go_wp2
                  go_roundw
                  case rel => exact ⟨k + 1, by go_num, by omega, hBP2, drewN_more hW.out _⟩
                  case measure => simp [intOf]; omega
                · by_cases c2 : x.1 = y.1
                  · by_cases c3 : y.2.1 < x.2.1
                    · have t1 : decide (y.1 < x.1) = false := by simpa using c1
                      have t2 : (x.1 == y.1) = true := by simpa using c2
                      have t3 : decide (y.2.1 < x.2.1) = true := by simpa using c3
                      have hBP2 : Hid (BestP d dn (k + 1) (.int .i64 k)) := by
                        refine .inr ⟨k, x, rfl, by omega, HX.out, HM.out, fun j z hj hz hzm => ?_⟩
                        by_cases h : j < k
                        · have := h1 j z h hz hzm
                          unfold laterP at this ⊢
                          omega
                        · obtain rfl : j = k := by omega
                          rw [HX.out] at hz
                          cases hz
                          unfold laterP
                          omega
                      clear c1 c2
                      clear h1 hBP hy hyb
                      go_wp2_with fail
                      go_quiet (fail)
                      clear t0 t1 t2 t3
                      go_wp2
                      go_roundw
                      case rel => exact ⟨k + 1, by go_num, by omega, hBP2, drewN_more hW.out _⟩
                      case measure => simp [intOf]; omega
                    · have t1 : decide (y.1 < x.1) = false := by simpa using c1
                      have t2 : (x.1 == y.1) = true := by simpa using c2
                      have t3 : decide (y.2.1 < x.2.1) = false := by simpa using c3
                      have hBP2 : Hid (BestP d dn (k + 1) (.int .i64 b)) := by
                        refine .inr ⟨b, y, rfl, by omega, hy, hyb, fun j z hj hz hzm => ?_⟩
                        by_cases h : j < k
                        · exact h1 j z h hz hzm
                        · obtain rfl : j = k := by omega
                          rw [HX.out] at hz
                          cases hz
                          unfold laterP
                          omega
                      clear c1 c2
                      clear h1 hBP hy hyb
                      go_wp2_with fail
                      go_quiet (fail)
                      clear t0 t1 t2 t3
                      go_wp2
                      go_roundw
                      case rel => exact ⟨k + 1, by go_num, by omega, hBP2, drewN_more hW.out _⟩
                      case measure => simp [intOf]; omega
                  · have t1 : decide (y.1 < x.1) = false := by simpa using c1
                    have t2 : (x.1 == y.1) = false := by simpa using c2
                    have hBP2 : Hid (BestP d dn (k + 1) (.int .i64 b)) := by
                      refine .inr ⟨b, y, rfl, by omega, hy, hyb, fun j z hj hz hzm => ?_⟩
                      by_cases h : j < k
                      · exact h1 j z h hz hzm
                      · obtain rfl : j = k := by omega
                        rw [HX.out] at hz
                        cases hz
                        unfold laterP
                        omega
                    clear h1 hBP hy hyb
                    go_wp2_with fail
                    go_quiet (fail)
                    clear t0 t1 t2
                    go_wp2
                    go_roundw
                    case rel => exact ⟨k + 1, by go_num, by omega, hBP2, drewN_more hW.out _⟩
                    case measure => simp [intOf]; omega
          · have hkn : k = d.length := by omega
            rcases hBP.out with ⟨_, h1⟩ | ⟨b, x, rfl, hb, hx, hxb, h1⟩
            · exact absurd (fun j hj => h1 j (by omega)) (hM.out.open (by rw [hds.out]; omega))
            · have hM2 := hM.out.step H.out.2.2.2.2.1 H.out.2.2.2.1 hx hxb (fun j z hz hzm => h1 j z (by have := (List.getElem?_eq_some_iff.1 hz).1; omega) hz hzm)
              have hgs2 := hM2.good H.out.2.2.2.2.1
              have hsm2 : ∀ y ∈ x :: ds, y.2.2.size ≤ 3000 := by
                intro y hy
                have : y ∈ doneOf d (dn.set b true) := hM2.perm.mem_iff.1 hy
                exact HSM.out y (Made.good.mem_doneOf _ _ _ this)
              obtain ⟨T, hT, hTs, hTg, hTa⟩ := apply_next s x ds hs hM2.bef hgs2 hsm2 (by rw [hds.out]; omega)
              rw [← hT]
              obtain ⟨b0, off, rfl, x0, x1, x2⟩ := hR.out _ _ hx
              obtain ⟨nw, hnw⟩ := hW.out
              have hbo := lt_of_cell x0
              have cm : wr.cell? ⟨w1.heap.size, b, none⟩ = some (.bool false) := by rw [hnw]; exact HC.out b false hxb
              have hO2 : wr.ownsRow w.heap.size 4 1 (.slice (some ⟨w1.heap.size, 0, none⟩) d.length d.length) d.length (dn.map Value.bool) := by rw [hnw]; exact hO.out
              have fm : wr.frozen? ⟨w1.heap.size, b, none⟩ = false := hO2.frozenAt b
              obtain ⟨hst, hsg⟩ := hO2.stored b (.bool true)
              have hBn : Below w.heap.size w wr := by rw [hnw]; exact below_drewN hB.out nw
              have hRn : RowEd wr (some ⟨b0, off, none⟩) d := by rw [hnw]; exact hR.out
              have hbd : (b : Int) < (d.length : Int) := by omega
              have hbn : b < d.length := by omega
              have hb0w : b0 < w.heap.size := by
                obtain ⟨b', off', hab, y0, _⟩ := HD.out _ _ hx
                cases hab
                exact lt_of_cell y0
              have cy : ∀ j, (wr.setCell ⟨w1.heap.size, b, none⟩ (.bool true)).cell? ⟨b0, j, none⟩ = wr.cell? ⟨b0, j, none⟩ := fun j =>
                World.cell?_of_block (w := wr) (Below.heap_setCell wr ⟨w1.heap.size, b, none⟩ (.bool true) b0 (by show b0 ≠ w1.heap.size; omega))
              have cx0 : (wr.setCell ⟨w1.heap.size, b, none⟩ (.bool true)).cell? ⟨b0, off + b * 3, none⟩ = some (.int .i64 x.1) := by rw [cy, hnw]; exact x0
              have cx1 : (wr.setCell ⟨w1.heap.size, b, none⟩ (.bool true)).cell? ⟨b0, off + b * 3 + 1, none⟩ = some (.int .i64 x.2.1) := by rw [cy, hnw]; exact x1
              have cx2 : (wr.setCell ⟨w1.heap.size, b, none⟩ (.bool true)).cell? ⟨b0, off + b * 3 + 2, none⟩ = some (.string x.2.2) := by rw [cy, hnw]; exact x2
              have hRs : RowEd (wr.setCell ⟨w1.heap.size, b, none⟩ (.bool true)) (some ⟨b0, off, none⟩) d := by
                intro j z hz
                obtain ⟨b', off', hab, z0, z1, z2⟩ := hRn j z hz
                cases hab
                exact ⟨b0, off, rfl, (cy _).trans z0, (cy _).trans z1, (cy _).trans z2⟩
              have hBs : Below w.heap.size w (wr.setCell ⟨w1.heap.size, b, none⟩ (.bool true)) := hBn.setCell (p := ⟨w1.heap.size, b, none⟩) hs1 _
              have hszs : (wr.setCell ⟨w1.heap.size, b, none⟩ (.bool true)).heap.size = wr.heap.size := by simp
              have hbk := Blk.new (wr.setCell ⟨w1.heap.size, b, none⟩ (.bool true)) 42 #[.int .i64 x.1, .int .i64 x.2.1, .string x.2.2]
              rw [hszs] at hbk
              have HAP := Lib.hid (apply_one T x wr.heap.size 1 _ hTs (hsm2 x (by simp)) hTg (rowEd_one hbk))
              have HST := Lib.hid (And.intro hst (And.intro hRs (And.intro hBs hszs)))
              have HMM := Lib.hid (And.intro hM2 hTa)
              clear x0 x1 x2 hnw hW cy hst hRs hBs hszs hbk hM2 hTa hgs2 hsm2 hRn hBn hO2 hsg hT hTg h1 hxb hx hBP hM
              go_wp2_with fail
              refine HAP.out.mono ?_
              rintro e w5 ⟨rfl, hB5⟩
              have hB5s := hB5.size
              have hst2 : w5.ownsRow w.heap.size 4 1 (.slice (some ⟨w1.heap.size, 0, none⟩) d.length d.length) d.length ((dn.set b true).map Value.bool) := by
                have h0 := HST.out.1
                rw [← List.map_set] at h0
                exact ownsRow_below (h0.alloc _) hB5 (by have h8 := h0.lt w1.heap.size rfl; have h9 := HST.out.2.2.2; simp; omega)
              have hRow5 : RowEd w5 (some ⟨b0, off, none⟩) d := by
                refine RowEd.below ?_ hB5
                intro j z hz
                obtain ⟨b', off', hab, z0, z1, z2⟩ := HST.out.2.1 j z hz
                cases hab
                have hlt0 := lt_of_cell z0
                refine ⟨b0, off, rfl, ?_, ?_, ?_⟩
                · exact (((Below.refl _ _).alloc (Nat.le_refl _) _).cell (p := ⟨b0, _, none⟩) hlt0).trans z0
                · exact (((Below.refl _ _).alloc (Nat.le_refl _) _).cell (p := ⟨b0, _, none⟩) hlt0).trans z1
                · exact (((Below.refl _ _).alloc (Nat.le_refl _) _).cell (p := ⟨b0, _, none⟩) hlt0).trans z2
              have hBel5 : Below w.heap.size w w5 := (HST.out.2.2.1.alloc HST.out.2.2.1.size _).trans (hB5.mono (by have h8 := HST.out.2.2.1.size; have h9 := HST.out.2.2.2; simp; omega))
              have HW5 := Lib.hid (And.intro hst2 (And.intro hRow5 hBel5))
              clear hB5 hst2 hRow5 hBel5 HAP
              go_wp2_with fail
              refine ⟨⟨i + 1, dn.set b true, x :: ds, by go_num, by omega, by have := hds.out; simp [Hid, this], HMM.out.1, ?_, HW5.out.1, HW5.out.2.1, HW5.out.2.2⟩, by simp [intOf]; omega⟩
              rw [← HMM.out.2]
      · have hin : i = d.length := by omega
        have hall := hM.out.all (by rw [hds.out]; exact hin) H.out.2.1 H.out.1 H.out.2.2.1
        have hfin : (applyA s.data.toList ds).toArray = G.data := by rw [hall, H.out.2.2.2.2.2]
        rw [hfin]
        have hsB := hB.out.size
        go_wp2_with fail
        refine (known_any _).mono ?_
        rintro e w7 ⟨rfl, hB9⟩
        have HB10 : Hid (Below w.heap.size w w7) := hB.out.trans (hB9.mono hsB)
        clear hB9
        go_wp2
        go_ret
        exact ⟨rfl, HB10.out⟩

end Go.Proofs.Ytmlkeddiagmedaa
