import Derived.Test.YtmlkeddiagmedaaLawApply0
import Derived.Test.YtmlkeddiagmedaaLawTwice
import Derived.Laws.AppendOwnNone
import Derived.Deep.DeepCutAuto
namespace Go.Proofs.Ytmlkeddiagmedaa
open Go.RowKit

set_option maxRecDepth 100000 in
set_option maxHeartbeats 1000000 in
theorem lawApply_long (s : ByteArray) (a : Option Addr) (cap : Nat) (d : List Ed) (w : World) (hd : RowEd w a d) (h : LongP s d) :
    Calls Try.prog 5 #[.string s, .slice a d.length cap] w (lawPost4 w) := by
  have HL := Lib.hid (long_any s a cap d w hd)
  clear hd
  go_enter Try.func5, Try.ntmps5
  go_wp2_with fail
  refine HL.out.mono ?_
  rintro e w' ⟨rfl, ⟨_, rfl⟩ | ⟨hno, _⟩⟩
  · go_wp2_with fail
    refine (known_any _).mono ?_
    rintro e w' ⟨rfl, hB⟩
    go_wp2
    go_ret
    exact ⟨rfl, hB⟩
  · exact absurd h hno

def zzE : Ed := (0, 0, ⟨#[122, 122]⟩)
/-- m: the list in memory of its own, "zz" behind it. -/
def MAt (B : Nat) (d : List Ed) (g cap : Nat) (w : World) : Prop := OwnEd B (.slice (some ⟨g, 0, none⟩) (d.length + 1) cap) (d ++ [zzE]) w ∧ d.length + 1 ≤ cap

theorem MAt.row {B g c : Nat} {d : List Ed} {w : World} (h : MAt B d g c w) : RowEd w (some ⟨g, 0, none⟩) (d ++ [zzE]) := by
  have h1 := h.1
  rw [show d.length + 1 = (d ++ [zzE]).length by simp] at h1
  exact h1.row

theorem row_prefix {w : World} {a : Option Addr} {d r : List Ed} (h : RowEd w a (d ++ r)) : RowEd w a d := fun i x hx => by
  have hi := (List.getElem?_eq_some_iff.1 hx).1
  exact h i x (by rw [List.getElem?_append_left hi]; exact hx)

theorem hnews_row {w : World} {ad : Addr} {d : List Ed} (hd : RowEd w (some ad) d) : ∀ j u, (d.flatMap encEd)[j]? = some u → w.cell? (ad.add j) = some u := by
  intro j u hu
  cases d with
  | nil => simp at hu
  | cons x r =>
    obtain ⟨b, off, hab, _⟩ := hd 0 x rfl
    cases hab
    have := hd.flat j u hu
    rw [show (⟨b, off, none⟩ : Addr).add j = ⟨b, off + j, none⟩ from by unfold Addr.add; split <;> simp_all]
    exact this

theorem enc_one (d : List Ed) : ∀ u ∈ d.flatMap encEd, u.oneCell' = true := by
  intro u hu
  obtain ⟨x, _, hx⟩ := List.mem_flatMap.1 hu
  exact newEd_one x u hx

set_option maxRecDepth 100000 in
set_option maxHeartbeats 4000000 in
theorem lawApply_any (s : ByteArray) (a : Option Addr) (cap : Nat) (d : List Ed) (w : World) (hd : RowEd w a d) (hcap : a = none → cap = 0) (h : ¬ LongP s d) :
    Calls Try.prog 5 #[.string s, .slice a d.length cap] w (lawPost4 w) := by
  have hs : s.size ≤ 3000 := by unfold LongP at h; omega
  have hl : d.length ≤ 20 := by unfold LongP at h; omega
  have hsm : ∀ x ∈ d, x.2.2.size ≤ 3000 := fun x hx => by
    by_cases hc : 3000 < x.2.2.size
    · exact absurd (.inr (.inr ⟨x, hx, hc⟩)) h
    · omega
  have HL := Lib.hid (long_any s a cap d w hd)
  have HD := Lib.hid hd
  have HSM := Lib.hid hsm
  have HN := Lib.hid h
  clear hd hsm h
  obtain ⟨i0, hi, hz0, hz1, hz2⟩ := info_parts infoEd
  go_enter Try.func5, Try.ntmps5
  go_wp2_with fail
  refine HL.out.mono ?_
  rintro e w' ⟨rfl, ⟨hyes, _⟩ | ⟨_, rfl⟩⟩
  · exact absurd hyes HN.out
  clear HL
  go_upto_region 3 with fail
  go_cut [5] (fun s5 wx => ∃ g c, s5 = .slice (some ⟨g, 0, none⟩) d.length c ∧ Hid (MAt w.heap.size d g c wx) ∧ Hid (Below w.heap.size w wx))
  case first =>
    as_aux_lemma =>
    have hfin : ∀ (v2 : Value) (w3 : World), OwnEd w.heap.size v2 (d ++ [zzE]) w3 → ∃ g c, v2 = .slice (some ⟨g, 0, none⟩) (d.length + 1) c ∧ d.length + 1 ≤ c ∧ Hid (MAt w.heap.size d g c w3) := by
      intro v2 w3 hO
      rcases hO.shape with ⟨_, h2⟩ | ⟨g, c, h1, h2, h3, h4, h5, _⟩
      · simp at h2
      · simp at h1 h4
        subst h1
        exact ⟨g, c, rfl, h4, hO, h4⟩
    have HF := Lib.hid hfin
    clear hfin
    cases a with
    | none =>
      obtain rfl : d = [] := by
        cases d with
        | nil => rfl
        | cons x r =>
          obtain ⟨b, off, hab, _⟩ := HD.out 0 x rfl
          cases hab
      obtain rfl : cap = 0 := hcap rfl
      go_wp2_with (first
        | (at_builtin; refine wpList_append_own_none rfl (.const (.slice none 0 0)) (.tmp 29) 39 rfl w.heap.size 42 i0 3 Try.underlying39 hi _ _ _ rfl (World.ownsRow_nil w w.heap.size 42 3) rfl ?_)
        | (at_builtin; refine wpList_append_own _ rfl (.tmp 30) (.tmp 32) 39 rfl w.heap.size 42 i0 _ 3 32 Try.underlying39 hi hz0 hz1 hz2 rfl (by decide) _ _ _ rfl (World.ownsRow_nil _ _ _ _) ⟨w.heap.size, 0, none⟩ 1 1 [.int .i64 0, .int .i64 0, .string ⟨#[122, 122]⟩] rfl rfl (newEd_cells w zzE) (newEd_one zzE) (by unfold maxLen; omega) (by omega) (by simp) ?_; intro v2 w3 hown2 hgrow2 _))
      have hB3 : Hid (Below w.heap.size w w3) := ((Below.refl _ w).alloc (Nat.le_refl _) _).grown hgrow2 (le_alloc (Nat.le_refl _) _) (fun k e => by cases e)
      obtain ⟨g, c, rfl, hc1, hM⟩ := HF.out v2 w3 hown2
      clear hown2 hgrow2 HF
      simp only [List.length_nil] at hc1
      have hc2 : (0 : Int) ≤ (c : Int) := by omega
      go_simp
      go_wp2_with fail
      go_meet
      exact ⟨g, c, rfl, hM, hB3⟩
    | some ad =>
      go_wp2_with (first
        | (at_builtin; refine wpList_append_own _ rfl (.const (.slice none 0 0)) (.tmp 29) 39 rfl w.heap.size 42 i0 _ 3 32 Try.underlying39 hi hz0 hz1 hz2 rfl (by decide) _ _ _ rfl (World.ownsRow_nil w w.heap.size 42 3) ad d.length cap (d.flatMap encEd) rfl (flat_length d) (hnews_row HD.out) (enc_one d) (by unfold maxLen; omega) (by omega) (Nat.le_refl _) ?_; intro v1 w2 hown1 hgrow1 _)
        | (at_builtin; refine wpList_append_own _ rfl (.tmp 30) (.tmp 32) 39 rfl w.heap.size 42 i0 _ 3 32 Try.underlying39 hi hz0 hz1 hz2 rfl (by decide) _ _ _ rfl (World.ownsRow.alloc hown1 _) ⟨w2.heap.size, 0, none⟩ 1 1 [.int .i64 0, .int .i64 0, .string ⟨#[122, 122]⟩] rfl rfl (newEd_cells w2 zzE) (newEd_one zzE) (by unfold maxLen; omega) (by omega) (le_alloc hgrow1.size _) ?_; intro v2 w3 hown2 hgrow2 _))
      have hB2 : Below w.heap.size w w2 := (Below.refl _ w).grown hgrow1 (Nat.le_refl _) (fun k e => by cases e)
      have hB3 : Hid (Below w.heap.size w w3) := (hB2.alloc hB2.size _).grown hgrow2 (le_alloc hB2.size _) (fun k e => (hown1.lt k e).1)
      have hO2 : OwnEd w.heap.size v2 (d ++ [zzE]) w3 := by
        unfold OwnEd
        rw [List.flatMap_append, List.length_append]
        simpa [encEd, zzE] using hown2
      obtain ⟨g, c, rfl, hc1, hM⟩ := HF.out v2 w3 hO2
      clear hown2 hgrow2 hown1 hgrow1 HF hO2 hB2
      have hc2 : (d.length : Int) ≤ (c : Int) := by omega
      have hc3 : (0 : Int) ≤ (d.length : Int) := by omega
      have hc4 : d.length ≤ c := by omega
      go_simp
      go_wp2_with fail
      go_meet
      exact ⟨g, c, rfl, hM, hB3⟩
  case rest =>
    obtain ⟨g, c, rfl, hM, hB⟩ := hcut
    have hRM := hM.out.row
    have hcg : (d.length : Int) + 1 ≤ (c : Int) := by have := hM.out.2; omega
    have HAU := Lib.hid (apply_u s (some ⟨g, 0, none⟩) c d wc hs (row_prefix hRM) hl HSM.out)
    have HRM := Lib.hid hRM
    have HRD : Hid (RowEd wc a d) := HD.out.below hB.out
    clear hRM hM
    go_wp2_with fail
    refine HAU.out.mono ?_
    rintro e w1 ⟨hB1, G, er, rfl, hOA⟩
    have HOA := Lib.hid hOA
    have HRM1 := Lib.hid (HRM.out.below hB1)
    have HRD1 := Lib.hid (HRD.out.below hB1)
    have HB1 : Hid (Below w.heap.size w w1) := hB.out.trans (hB1.mono hB.out.size)
    have HUU := Lib.hid (undo_u s (some ⟨g, 0, none⟩) c d w1 hs (row_prefix HRM1.out) hl HSM.out)
    clear hOA hB1 HAU HRM HRD
    go_wp2_with fail
    refine HUU.out.mono ?_
    rintro e w2 ⟨hB2, a2, n2, c2, er2, rfl, hOU⟩
    have HOU := Lib.hid hOU
    have HRM2 := Lib.hid (HRM1.out.below hB2)
    have HRD2 := Lib.hid (HRD1.out.below hB2)
    have HB2 : Hid (Below w.heap.size w w2) := HB1.out.trans (hB2.mono HB1.out.size)
    clear hOU hB2 HUU HRM1 HRD1
    go_wp2_with fail
    go_loopw [10] (fun p wr => ∃ k : Nat, p = .int .i64 k ∧ k ≤ d.length ∧ Hid (∃ m, wr = w2.drewN m)) (fun p _ => d.length - (intOf p).toNat)
    case atStart => exact ⟨0, rfl, Nat.zero_le _, ⟨0, rfl⟩⟩
    case round =>
      obtain ⟨k, rfl, hk, hW⟩ := hrel
      by_cases hlt : k < d.length
      · obtain ⟨x, hx⟩ : ∃ x, d[k]? = some x := ⟨d[k], by simp [hlt]⟩
        obtain ⟨b, off, rfl, x0, x1, x2⟩ := HRD2.out _ _ hx
        obtain ⟨b', off', hab, y0, y1, y2⟩ := row_prefix HRM2.out _ _ hx
        cases hab
        obtain ⟨m, hm⟩ := hW.out
        have cx0 : wr.cell? ⟨b, off + k * 3, none⟩ = some (.int .i64 x.1) := by rw [hm]; exact x0
        have cx1 : wr.cell? ⟨b, off + k * 3 + 1, none⟩ = some (.int .i64 x.2.1) := by rw [hm]; exact x1
        have cx2 : wr.cell? ⟨b, off + k * 3 + 2, none⟩ = some (.string x.2.2) := by rw [hm]; exact x2
        have cy0 : wr.cell? ⟨g, k * 3, none⟩ = some (.int .i64 x.1) := by rw [hm]; simpa using y0
        have cy1 : wr.cell? ⟨g, k * 3 + 1, none⟩ = some (.int .i64 x.2.1) := by rw [hm]; simpa using y1
        have cy2 : wr.cell? ⟨g, k * 3 + 2, none⟩ = some (.string x.2.2) := by rw [hm]; simpa using y2
        have hkd : (k : Int) < (d.length : Int) := by omega
        clear x0 x1 x2 y0 y1 y2 hx hm
        go_wp2_with fail
        go_quiet (fail)
        go_wp2
        go_roundw
        case rel => exact ⟨k + 1, by go_num, by omega, drewN_more hW.out _⟩
        case measure => simp [intOf]; omega
      · obtain ⟨m, hm⟩ := hW.out
        have HRM3 : Hid (RowEd wr (some ⟨g, 0, none⟩) (d ++ [zzE])) := by rw [hm]; exact HRM2.out
        have HRD3 : Hid (RowEd wr a d) := by rw [hm]; exact HRD2.out
        have HB3 : Hid (Below w.heap.size w wr) := by rw [hm]; exact below_drewN HB2.out m
        have HOU3 : Hid (outU s d w1.heap.size a2 n2 c2 er2 wr) := by
          rw [hm]
          rcases HOU.out with h | h | ⟨h1, h2, h3, sd, h4, h5, h6, h7⟩
          · exact .inl h
          · exact .inr (.inl h)
          · exact .inr (.inr ⟨h1, h2, h3, sd, h4, h5, h6, h7⟩)
        clear hm hW HRM2 HRD2 HB2 HOU
        have hzz : wr.cell? ⟨g, d.length * 3 + 2, none⟩ = some (.string ⟨#[122, 122]⟩) := by
          obtain ⟨b', off', hab, _, _, z2⟩ := HRM3.out d.length zzE (by simp)
          cases hab
          simpa [zzE] using z2
        have i1 : (0 : Int) ≤ (d.length : Int) := Int.natCast_nonneg _
        have i2 : (d.length : Int) < (d.length : Int) + 1 := by omega
        have t0 : ((⟨#[]⟩ : ByteArray).toList == []) = true := ba_eq rfl
        have HMAY := Lib.hid (may_any s.size a cap d wr HRD3.out (by omega))
        have hws := HB3.out.size
        go_wp2_with fail
        refine HMAY.out.mono ?_
        rintro e w3 ⟨⟨m3, rfl⟩, ⟨hgood, rfl⟩ | ⟨hbad, rfl⟩⟩
        · have HCL := Lib.hid (clash_any a cap d (wr.drewN m3) HRD3.out (by omega))
          have HGOOD := Lib.hid hgood
          clear hgood HMAY
          go_wp2_with fail
          refine HCL.out.mono ?_
          rintro e w4 ⟨hB4, ⟨hcl, rfl⟩ | ⟨hncl, rfl⟩⟩
          · as_aux_lemma =>
            have HB4 : Hid (Below w.heap.size w w4) := (below_drewN HB3.out m3).trans (hB4.mono hws)
            have HCC := Lib.hid hcl
            clear hcl hB4 HCL
            obtain ⟨rfl, rfl⟩ : G = ⟨#[]⟩ ∧ er = 110 := by
              rcases HOA.out with ⟨h, _⟩ | ⟨_, _, h⟩ | ⟨_, h, _⟩
              · exact absurd HGOOD.out h
              · exact h
              · exact absurd HCC.out h
            obtain ⟨rfl, rfl⟩ : n2 = 0 ∧ er2 = 110 := by
              rcases HOU3.out with ⟨h, _⟩ | ⟨_, _, h⟩ | ⟨_, h, _⟩
              · exact absurd HGOOD.out h
              · exact h
              · exact absurd HCC.out h
            have h4s := HB4.out.size
            go_wp2_with fail
            refine (known_any _).mono ?_
            rintro e w5 ⟨rfl, hB5⟩
            have HB5 : Hid (Below w.heap.size w w5) := HB4.out.trans (hB5.mono h4s)
            clear hB5
            go_wp2
            go_ret
            exact ⟨rfl, HB5.out⟩
          · have HB4 : Hid (Below w.heap.size w w4) := (below_drewN HB3.out m3).trans (hB4.mono hws)
            have HNC := Lib.hid hncl
            have HRD4 : Hid (RowEd w4 a d) := RowEd.below (w := wr.drewN m3) HRD3.out hB4
            have HOU4 : Hid (outU s d w1.heap.size a2 n2 c2 er2 w4) := by
              rcases HOU3.out with h | h | ⟨h1, h2, h3, sd, h4, h5, h6, h7⟩
              · exact .inl h
              · exact .inr (.inl h)
              · exact .inr (.inr ⟨h1, h2, h3, sd, h4, h5, h6, OwnEd.below2 hB4 h7 rfl⟩)
            clear hncl hB4 HCL HOU3 HRD3
            have hs4 := HB4.out.size
            obtain ⟨rfl, sd, hp, hb, hG⟩ : er = 0 ∧ ∃ sd : List Ed, sd.Perm d ∧ sd.Pairwise Bef ∧ G = ⟨(applyA s.data.toList sd).toArray⟩ := by
              rcases HOA.out with ⟨h, _⟩ | ⟨_, h, _⟩ | ⟨_, _, h⟩
              · exact absurd HGOOD.out h
              · exact absurd h HNC.out
              · exact h
            obtain ⟨rfl, hn2, hOU⟩ : er2 = 0 ∧ n2 = (undoA s (joinA sd) 0).length ∧ OwnEd w1.heap.size (.slice a2 n2 c2) (undoA s (joinA sd) 0) w4 := by
              rcases HOU4.out with ⟨h, _⟩ | ⟨_, h, _⟩ | ⟨_, _, h1, sd', h2, h3, h4, h5⟩
              · exact absurd HGOOD.out h
              · exact absurd h HNC.out
              · obtain rfl : sd' = sd := one_sd HGOOD.out hp hb h2 h3
                exact ⟨h1, h4, h5⟩
            have H := Lib.hid (And.intro hp (And.intro hb (And.intro hG (And.intro hn2 hOU))))
            clear hp hb hG hn2 hOU HOA HOU4
            go_wp2_with fail
            go_loopw [12, 13] (fun q p wr => ∃ (i : Nat) (Q : ByteArray), p = .int .i64 i ∧ i ≤ s.size + 1 ∧ q = .string Q ∧ Q.size ≤ i * 120001 ∧ Hid (Q.data.toList = wantA s.data.toList d i) ∧ Hid (Below w4.heap.size w4 wr)) (fun _ p _ => s.size + 1 - (intOf p).toNat)
            case atStart => exact ⟨0, ⟨#[]⟩, rfl, Nat.zero_le _, rfl, Nat.zero_le _, rfl, Below.refl _ _⟩
            case round =>
              obtain ⟨i, Q, rfl, hi1, rfl, hQs, hQ, hBo⟩ := hrel
              by_cases his : i ≤ s.size
              · obtain ⟨wo, rfl⟩ : ∃ wo : World, wo = wr := ⟨_, rfl⟩
                go_wp2_with fail
                go_loopw [12, 14, 15, 16] (fun q cc l p wr => ∃ (k : Nat) (Q L : ByteArray) (cb : Bool), p = .int .i64 k ∧ k ≤ d.length ∧ q = .string Q ∧ l = .string L ∧ cc = .bool cb ∧ Q.size ≤ i * 120001 + k * 3000 ∧ L.size ≤ k * 3000 ∧
                    Hid (Q.data.toList = wantA s.data.toList d i ++ insA i (d.take k)) ∧ Hid (L.data.toList = lasA i (d.take k)) ∧ Hid (cb = cutA i (d.take k)) ∧ Hid (Below w4.heap.size w4 wr)) (fun _ _ _ p _ => d.length - (intOf p).toNat)
                case atStart => exact ⟨0, Q, ⟨#[]⟩, false, rfl, Nat.zero_le _, rfl, rfl, rfl, by simpa using hQs, Nat.zero_le _, by show _ = _; rw [hQ.out]; simp [insA, txts], by show ([] : List UInt8) = _; simp [lasA, txts], by show _ = _; simp [cutA], hBo⟩
                case round =>
                  clear hQ hQs hBo
                  obtain ⟨k, Q, L, cb, rfl, hk, rfl, rfl, rfl, hQs, hLs, hQ, hL, hC, hBo⟩ := hrel
                  by_cases hkl : k < d.length
                  · as_aux_lemma =>
                    obtain ⟨x, hx⟩ : ∃ x, d[k]? = some x := ⟨d[k], by simp [hkl]⟩
                    obtain ⟨b, off, rfl, x0, x1, x2⟩ := HRD4.out _ _ hx
                    have hbl := lt_of_cell x0
                    have cx0 : wr.cell? ⟨b, off + k * 3, none⟩ = some (.int .i64 x.1) := (hBo.out.cell (p := ⟨b, _, none⟩) hbl).trans x0
                    have cx1 : wr.cell? ⟨b, off + k * 3 + 1, none⟩ = some (.int .i64 x.2.1) := (hBo.out.cell (p := ⟨b, _, none⟩) hbl).trans x1
                    have cx2 : wr.cell? ⟨b, off + k * 3 + 2, none⟩ = some (.string x.2.2) := (hBo.out.cell (p := ⟨b, _, none⟩) hbl).trans x2
                    have hbw := lt_of_cell cx2
                    have gx := HGOOD.out x (List.mem_of_getElem? hx)
                    have sx := HSM.out x (List.mem_of_getElem? hx)
                    unfold goodEd at gx
                    have hBo2 : Hid (Below w4.heap.size w4 (wr.alloc (.cells #[.int .i64 x.1, .int .i64 x.2.1] 35))) := hBo.out.alloc hBo.out.size _
                    have HS : Hid (insA i (d.take (k + 1)) = insA i (d.take k) ++ (if isIns i x then x.2.2.data.toList else []) ∧ lasA i (d.take (k + 1)) = lasA i (d.take k) ++ (if isLas i x then x.2.2.data.toList else []) ∧ cutA i (d.take (k + 1)) = (cutA i (d.take k) || isCut i x)) := by
                      rw [take_snoc d k x hx]
                      exact ⟨ins_snoc _ _ _, las_snoc _ _ _, cut_snoc _ _ _⟩
                    have hkd : (k : Int) < (d.length : Int) := by omega
                    have hkn : (k + 1) * 3000 = k * 3000 + 3000 := by omega
                    clear x0 x1 x2 hx
                    have HENDS : Hid (∀ (Q' L' : ByteArray) (cb' : Bool), Q'.data.toList = Q.data.toList ++ (if isIns i x then x.2.2.data.toList else []) → L'.data.toList = L.data.toList ++ (if isLas i x then x.2.2.data.toList else []) → cb' = (cb || isCut i x) →
                        Q'.size ≤ i * 120001 + (k + 1) * 3000 ∧ L'.size ≤ (k + 1) * 3000 ∧ Hid (Q'.data.toList = wantA s.data.toList d i ++ insA i (d.take (k + 1))) ∧ Hid (L'.data.toList = lasA i (d.take (k + 1))) ∧ Hid (cb' = cutA i (d.take (k + 1)))) := by
                      intro Q' L' cb' e1 e2 e3
                      have l1 : Q'.size ≤ Q.size + x.2.2.size := by
                        have := congrArg List.length e1
                        simp at this
                        split at this <;> simp at this <;> omega
                      have l2 : L'.size ≤ L.size + x.2.2.size := by
                        have := congrArg List.length e2
                        simp at this
                        split at this <;> simp at this <;> omega
                      refine ⟨by omega, by omega, ?_, ?_, ?_⟩
                      · show _ = _; rw [e1, hQ.out, HS.out.1, List.append_assoc]
                      · show _ = _; rw [e2, hL.out, HS.out.2.1]
                      · show _ = _; rw [e3, hC.out, HS.out.2.2]
                    clear hQ hL hC HS
                    by_cases c1 : x.1 = (i : Int)
                    · as_aux_lemma =>
                      by_cases c2 : x.2.1 = (i : Int)
                      · have E := HENDS.out (Q ++ x.2.2) L cb (by rw [ba_app]; simp [isIns, c1, c2]) (by simp [isLas, c2]) (by simp [isCut, c2])
                        have E := Lib.hid E
                        have t1 : (x.1 == (i : Int)) = true := by simpa using c1
                        have t2 : (x.2.1 == (i : Int)) = true := by simpa using c2
                        have t3 : decide ((i : Int) < x.2.1) = false := by simp; omega
                        have t4 : decide (x.1 ≤ (i : Int)) = true := by simp; omega
                        clear c1 c2 HENDS
                        cases cb
                        ·
                          go_wp2_with fail
                          go_roundw
                          case rel => exact ⟨k + 1, Q ++ x.2.2, L, _, by go_num, by omega, rfl, rfl, rfl, E.out.1, E.out.2.1, E.out.2.2.1, E.out.2.2.2.1, E.out.2.2.2.2, hBo2⟩
                          case measure => simp [intOf]; omega
                        ·
                          go_wp2_with fail
                          go_roundw
                          case rel => exact ⟨k + 1, Q ++ x.2.2, L, _, by go_num, by omega, rfl, rfl, rfl, E.out.1, E.out.2.1, E.out.2.2.1, E.out.2.2.2.1, E.out.2.2.2.2, hBo2⟩
                          case measure => simp [intOf]; omega
                      · have E := Lib.hid (HENDS.out Q (L ++ x.2.2) true (by simp [isIns, c2]) (by rw [ba_app]; simp [isLas, c1]; omega) (by simp [isCut, c1]; omega))
                        have t1 : (x.1 == (i : Int)) = true := by simpa using c1
                        have t2 : (x.2.1 == (i : Int)) = false := by simpa using c2
                        have t3 : decide ((i : Int) < x.2.1) = true := by simp; omega
                        have t4 : decide (x.1 ≤ (i : Int)) = true := by simp; omega
                        clear c1 c2 HENDS
                        cases cb
                        ·
                          go_wp2_with fail
                          go_roundw
                          case rel => exact ⟨k + 1, Q, L ++ x.2.2, _, by go_num, by omega, rfl, rfl, rfl, E.out.1, E.out.2.1, E.out.2.2.1, E.out.2.2.2.1, E.out.2.2.2.2, hBo2⟩
                          case measure => simp [intOf]; omega
                        ·
                          go_wp2_with fail
                          go_roundw
                          case rel => exact ⟨k + 1, Q, L ++ x.2.2, _, by go_num, by omega, rfl, rfl, rfl, E.out.1, E.out.2.1, E.out.2.2.1, E.out.2.2.2.1, E.out.2.2.2.2, hBo2⟩
                          case measure => simp [intOf]; omega
                    · as_aux_lemma =>
                      by_cases c2 : x.1 < (i : Int)
                      · have t1 : (x.1 == (i : Int)) = false := by simpa using c1
                        have t4 : decide (x.1 ≤ (i : Int)) = true := by simp; omega
                        by_cases c3 : (i : Int) < x.2.1
                        · have E := Lib.hid (HENDS.out Q L true (by simp [isIns, c1]) (by simp [isLas, c1]) (by simp [isCut]; omega))
                          have t3 : decide ((i : Int) < x.2.1) = true := by simpa using c3
                          clear c1 HENDS
                          cases cb
                          ·
                            go_wp2_with fail
                            go_roundw
                            case rel => exact ⟨k + 1, Q, L, _, by go_num, by omega, rfl, rfl, rfl, E.out.1, E.out.2.1, E.out.2.2.1, E.out.2.2.2.1, E.out.2.2.2.2, hBo2⟩
                            case measure => simp [intOf]; omega
                          ·
                            go_wp2_with fail
                            go_roundw
                            case rel => exact ⟨k + 1, Q, L, _, by go_num, by omega, rfl, rfl, rfl, E.out.1, E.out.2.1, E.out.2.2.1, E.out.2.2.2.1, E.out.2.2.2.2, hBo2⟩
                            case measure => simp [intOf]; omega
                        · have E := Lib.hid (HENDS.out Q L cb (by simp [isIns, c1]) (by simp [isLas, c1]) (by simp [isCut, c3]))
                          have t3 : decide ((i : Int) < x.2.1) = false := by simpa using c3
                          clear c1 HENDS
                          cases cb
                          ·
                            go_wp2_with fail
                            go_roundw
                            case rel => exact ⟨k + 1, Q, L, _, by go_num, by omega, rfl, rfl, rfl, E.out.1, E.out.2.1, E.out.2.2.1, E.out.2.2.2.1, E.out.2.2.2.2, hBo2⟩
                            case measure => simp [intOf]; omega
                          ·
                            go_wp2_with fail
                            go_roundw
                            case rel => exact ⟨k + 1, Q, L, _, by go_num, by omega, rfl, rfl, rfl, E.out.1, E.out.2.1, E.out.2.2.1, E.out.2.2.2.1, E.out.2.2.2.2, hBo2⟩
                            case measure => simp [intOf]; omega
                      · have hni : ¬ x.1 ≤ (i : Int) := by omega
                        have E := Lib.hid (HENDS.out Q L cb (by simp [isIns, c1]) (by simp [isLas, c1]) (by simp [isCut, hni]))
                        have t1 : (x.1 == (i : Int)) = false := by simpa using c1
                        have t4 : decide (x.1 ≤ (i : Int)) = false := by simp; omega
                        clear c1 hni HENDS
                        cases cb
                        ·
                          go_wp2_with fail
                          go_roundw
                          case rel => exact ⟨k + 1, Q, L, _, by go_num, by omega, rfl, rfl, rfl, E.out.1, E.out.2.1, E.out.2.2.1, E.out.2.2.2.1, E.out.2.2.2.2, hBo2⟩
                          case measure => simp [intOf]; omega
                        ·
                          go_wp2_with fail
                          go_roundw
                          case rel => exact ⟨k + 1, Q, L, _, by go_num, by omega, rfl, rfl, rfl, E.out.1, E.out.2.1, E.out.2.2.1, E.out.2.2.2.1, E.out.2.2.2.2, hBo2⟩
                          case measure => simp [intOf]; omega
                  · have hkn : k = d.length := by omega
                    rw [hkn, List.take_length] at hQ hL hC
                    rw [hkn] at hQs hLs
                    have HP : Hid (wantA s.data.toList d (i + 1) = wantA s.data.toList d i ++ (insA i d ++ lasA i d ++ byteA s.data.toList i (cutA i d))) := wantA_succ _ _ _
                    have hls : d.length * 3000 ≤ 60000 := by omega
                    have hnx : (i + 1) * 120001 = i * 120001 + 120001 := by omega
                    have hlen : s.data.toList.length = s.size := by simp
                    by_cases hsi : i < s.size
                    · cases cb
                      · have HQ2 : Hid (((Q ++ L) ++ s.extract i (i + 1)).data.toList = wantA s.data.toList d (i + 1)) := by
                          show _ = _
                          have e1 : (s.extract i (i + 1)).data.toList = (s.data.toList.drop i).take 1 := by
                            rw [ByteArray.data_extract, Array.toList_extract, List.extract_eq_take_drop, show i + 1 - i = 1 by omega]
                          rw [HP.out, ba_app, ba_app, hQ.out, hL.out, ← hC.out, e1]
                          simp [byteA, hsi]
                        have hq2 : ((Q ++ L) ++ s.extract i (i + 1)).size ≤ (i + 1) * 120001 := by
                          rw [ByteArray.size_append, ByteArray.size_append, ByteArray.size_extract]; omega
                        clear hQ hL hC HP
                        go_wp2_with fail
                        go_roundw
                        case rel => exact ⟨i + 1, _, by go_num, by omega, rfl, hq2, HQ2, hBo⟩
                        case measure => simp [intOf]; omega
                      · have HQ2 : Hid ((Q ++ L).data.toList = wantA s.data.toList d (i + 1)) := by
                          show _ = _
                          rw [HP.out, ba_app, hQ.out, hL.out, ← hC.out]
                          simp [byteA]
                        have hq2 : (Q ++ L).size ≤ (i + 1) * 120001 := by
                          rw [ByteArray.size_append]; omega
                        clear hQ hL hC HP
                        go_wp2_with fail
                        go_roundw
                        case rel => exact ⟨i + 1, _, by go_num, by omega, rfl, hq2, HQ2, hBo⟩
                        case measure => simp [intOf]; omega
                    · have HQ2 : Hid ((Q ++ L).data.toList = wantA s.data.toList d (i + 1)) := by
                        show _ = _
                        rw [HP.out, ba_app, hQ.out, hL.out]
                        have : ¬ (i < s.data.toList.length ∧ cutA i d = false) := by rw [hlen]; omega
                        simp only [byteA, if_neg this]
                        simp
                      have hq2 : (Q ++ L).size ≤ (i + 1) * 120001 := by
                        rw [ByteArray.size_append]; omega
                      clear hQ hL hC HP
                      go_wp2_with fail
                      go_roundw
                      case rel => exact ⟨i + 1, _, by go_num, by omega, rfl, hq2, HQ2, hBo⟩
                      case measure => simp [intOf]; omega
              · as_aux_lemma =>
                obtain rfl : i = s.size + 1 := by omega
                have hlen : s.data.toList.length = s.size := by simp
                have hgs : ∀ x ∈ sd, goodEd s.size x := fun x hx => HGOOD.out x (H.out.1.mem_iff.1 hx)
                have hss : smallEd 3000 sd := fun x hx => HSM.out x (H.out.1.mem_iff.1 hx)
                have hsdl : sd.length = d.length := H.out.1.length_eq
                have hQG : Q = G := by
                  have h1 := want_apply s.data.toList H.out.1 H.out.2.1 (by rw [hlen]; exact hgs)
                  rw [hlen] at h1
                  rw [H.out.2.2.1, ← h1, ← hQ.out]
                subst hQG
                obtain ⟨u1, u2, u3⟩ := undo_all s sd hgs H.out.2.1
                have hGl : Q.data.toList = applyA s.data.toList sd := by rw [H.out.2.2.1]
                have hGs : Q.size ≤ 100000 := by
                  have h1 := applyA_length s sd hgs (not_ovl_of_bef H.out.2.1)
                  have h2 := sumG_bd s.size 3000 sd hgs hss
                  have h3 : Q.data.toList.length = Q.size := by simp
                  rw [← hGl, h3] at h1
                  omega
                have hUl : (undoA s (joinA sd) 0).length ≤ d.length := by rw [undoA_len, ← hsdl]; exact joinA_le sd
                have hGs3 : (applyA s.data.toList sd).length = Q.size := by rw [← hGl]; simp
                rw [hGs3] at u2
                have hUb := bef_of_sorted Q.size _ u2 u3
                have hUs : smallEd 3000 (undoA s (joinA sd) 0) := fun x hx => Nat.le_trans (undoA_small s _ _ x hx) hs
                have hback : (⟨(applyA Q.data.toList (undoA s (joinA sd) 0)).toArray⟩ : ByteArray) = s := by rw [hGl]; exact ba_of_list u1
                have hn2 := H.out.2.2.2.1
                have hOU := H.out.2.2.2.2
                have hG : (⟨(applyA s.data.toList sd).toArray⟩ : ByteArray) = Q := H.out.2.2.1.symm
                obtain ⟨U, hU⟩ : ∃ U, U = undoA s (joinA sd) 0 := ⟨_, rfl⟩
                rw [← hU] at hUb hUs hback hn2 hOU hUl u2
                have HU := Lib.hid (And.intro hUb (And.intro hUs (And.intro hback (And.intro u2 hOU))))
                have HP := Lib.hid (And.intro H.out.1 (And.intro H.out.2.1 (And.intro hgs hG)))
                subst hn2
                have hn2d : (U.length : Int) ≤ (d.length : Int) := by omega
                have HB6 : Hid (Below w4.heap.size w4 wr) := hBo
                clear u1 u2 u3 hGl hUb hUs hback hOU hU hG hgs hss hsdl hQ hBo hQs hlen hGs3 H
                have hlm : (d.length : Int) ≤ 20 := by omega
                go_wp2_with fail
                go_loopw [18, 19] (fun v p wr => ∃ j : Nat, p = .int .i64 ((j : Int) - 1) ∧ j ≤ d.length ∧ Hid (OwnEd w4.heap.size v (d.reverse.take (d.length - j)) wr) ∧ Hid (Below w4.heap.size w4 wr)) (fun _ p _ => (intOf p + 1).toNat)
                case atStart => exact ⟨d.length, rfl, Nat.le_refl _, by rw [Nat.sub_self]; exact OwnEd.nil _ _, HB6⟩
                case round =>
                  clear HB6
                  obtain ⟨j, rfl, hj, hO, hB6⟩ := hrel
                  by_cases hj0 : 0 < j
                  · obtain ⟨j, rfl⟩ : ∃ j', j = j' + 1 := ⟨j - 1, by omega⟩
                    rw [show ((j + 1 : Nat) : Int) - 1 = (j : Int) by omega]
                    obtain ⟨x, hx⟩ : ∃ x, d[j]? = some x := ⟨d[j], by simp [show j < d.length by omega]⟩
                    obtain ⟨b, off, rfl, x0, x1, x2⟩ := HRD4.out _ _ hx
                    have hbl := lt_of_cell x0
                    have cx0 : wr.cell? ⟨b, off + j * 3, none⟩ = some (.int .i64 x.1) := (hB6.out.cell (p := ⟨b, _, none⟩) hbl).trans x0
                    have cx1 : wr.cell? ⟨b, off + j * 3 + 1, none⟩ = some (.int .i64 x.2.1) := (hB6.out.cell (p := ⟨b, _, none⟩) hbl).trans x1
                    have cx2 : wr.cell? ⟨b, off + j * 3 + 2, none⟩ = some (.string x.2.2) := (hB6.out.cell (p := ⟨b, _, none⟩) hbl).trans x2
                    have HT : Hid (d.reverse.take (d.length - j) = d.reverse.take (d.length - (j + 1)) ++ [x]) := by
                      show _ = _
                      rw [show d.length - j = (d.length - (j + 1)) + 1 by omega]
                      refine take_snoc _ _ _ ?_
                      rw [List.getElem?_reverse (by omega), show d.length - 1 - (d.length - (j + 1)) = j by omega]
                      exact hx
                    have hTl : (d.reverse.take (d.length - (j + 1))).length ≤ 20 := by rw [List.length_take]; omega
                    have hjd : (j : Int) < (d.length : Int) := by omega
                    have hj00 : (0 : Int) ≤ (j : Int) := Int.natCast_nonneg _
                    clear x0 x1 x2 hx
                    go_wp2_with (at_builtin; refine wpList_append_own _ rfl _ _ 39 rfl w4.heap.size 42 i0 _ 3 32 Try.underlying39 hi hz0 hz1 hz2 rfl (by decide) _ _ _ rfl (hO.out.alloc (.cells #[.int .i64 x.1, .int .i64 x.2.1, .string x.2.2] 42)) ⟨wr.heap.size, 0, none⟩ 1 1 [.int .i64 x.1, .int .i64 x.2.1, .string x.2.2] rfl rfl (newEd_cells wr x) (newEd_one x) (by unfold maxLen; omega) (by omega) (le_alloc hB6.out.size _) ?_; intro v' w6 hown' hgrow _)
                    have hO2 : Hid (OwnEd w4.heap.size v' (d.reverse.take (d.length - j)) w6) := by
                      show OwnEd _ _ _ _
                      rw [HT.out]
                      unfold OwnEd
                      rw [List.flatMap_append, List.length_append]
                      exact hown'
                    have hB7 : Hid (Below w4.heap.size w4 w6) := (hB6.out.alloc hB6.out.size _).grown hgrow (le_alloc hB6.out.size _) (fun k hk => (hO.out.lt k hk).1)
                    clear hown' hgrow hO hB6 cx0 cx1 cx2
                    go_wp2_with fail
                    go_roundw
                    case rel => first | exact ⟨j, rfl, by omega, hO2, hB7⟩ | ((repeat apply Exists.intro); exact ⟨⟨j, rfl, by omega, hO2, hB7⟩, rfl⟩)
                    case measure => first | done | (simp [intOf]; done) | (simp [intOf]; omega)
                  · obtain rfl : j = 0 := by omega
                    rw [Nat.sub_zero, List.take_of_length_le (by simp)] at hO
                    obtain ⟨a3, c3, rfl, hR3⟩ : ∃ a3 c3, u18 = .slice a3 d.length c3 ∧ RowEd wr a3 d.reverse := by
                      rcases hO.out.shape with ⟨h1, h2⟩ | ⟨g3, c3, h, _⟩
                      · have : d = [] := by simpa using h2
                        subst this
                        exact ⟨none, 0, h1, fun i x hx => by simp at hx⟩
                      · subst h
                        rw [List.length_reverse]
                        exact ⟨_, _, rfl, hO.out.row⟩
                    have hAP := apply_perm s a3 c3 d.reverse sd wr 3000 (by omega) hR3 (by simpa using hl) (fun x hx => HSM.out x (by simpa using hx)) (by decide) ((List.reverse_perm d).trans HP.out.1.symm) HP.out.2.1 HP.out.2.2.1
                    rw [List.length_reverse, HP.out.2.2.2] at hAP
                    have HAP := Lib.hid hAP
                    clear hAP hR3 hO
                    go_wp2_with fail
                    refine HAP.out.mono ?_
                    rintro e w7 ⟨rfl, hB7⟩
                    have HB7 : Hid (Below w4.heap.size w4 w7) := hB6.out.trans (hB7.mono hB6.out.size)
                    have hOU7 := HU.out.2.2.2.2.below HB7.out (Nat.le_refl _)
                    have hRU : RowEd w7 a2 U := by
                      rcases hOU7.shape with ⟨h1, h2⟩ | ⟨g3, c3, h, _⟩
                      · subst h2; intro i x hx; simp at hx
                      · injection h with h1 h2 h3; subst h1 h3; exact hOU7.row
                    have HRU := Lib.hid hRU
                    clear hB7 hB6 hRU hOU7 HAP
                    go_wp2_with fail
                    go_loopw [22] (fun p wr => ∃ k : Nat, p = .int .i64 k ∧ 1 ≤ k ∧ k ≤ U.length + 1 ∧ Hid (∃ m, wr = w7.drewN m)) (fun p _ => U.length + 1 - (intOf p).toNat)
                    case atStart => exact ⟨1, rfl, Nat.le_refl _, by omega, ⟨0, rfl⟩⟩
                    case round =>
                      obtain ⟨k, rfl, hk1, hk, hW⟩ := hrel
                      by_cases hkl : k < U.length
                      · obtain ⟨k, rfl⟩ : ∃ k', k = k' + 1 := ⟨k - 1, by omega⟩
                        obtain ⟨x, hx⟩ : ∃ x, U[k]? = some x := ⟨U[k], by simp [show k < U.length by omega]⟩
                        obtain ⟨y, hy⟩ : ∃ y, U[k + 1]? = some y := ⟨U[k + 1], by simp [hkl]⟩
                        obtain ⟨b2, off2, rfl, x0, x1, x2⟩ := HRU.out _ _ hx
                        obtain ⟨b3, off3, hab, y0, y1, y2⟩ := HRU.out _ _ hy
                        cases hab
                        obtain ⟨m, hm⟩ := hW.out
                        have cx0 : wr.cell? ⟨b2, off2 + k * 3, none⟩ = some (.int .i64 x.1) := by rw [hm]; exact x0
                        have cy0 : wr.cell? ⟨b2, off2 + (k + 1) * 3, none⟩ = some (.int .i64 y.1) := by rw [hm]; exact y0
                        have hbx : Bef x y := by
                          have hp := HU.out.1
                          obtain ⟨q1, rfl⟩ := List.getElem?_eq_some_iff.1 hx
                          obtain ⟨q2, rfl⟩ := List.getElem?_eq_some_iff.1 hy
                          rw [List.pairwise_iff_getElem] at hp
                          exact hp k (k + 1) q1 q2 (by omega)
                        have gx := HU.out.2.2.2.1 x (List.mem_of_getElem? hx)
                        have t1 : decide (y.1 < x.1) = false := by
                          unfold Bef at hbx; unfold goodEd at gx; simp; omega
                        have k1 : ((k + 1 : Nat) : Int) < (U.length : Int) := by omega
                        have k2 : (k : Int) < (U.length : Int) := by omega
                        have k3 : (0 : Int) ≤ (k : Int) := Int.natCast_nonneg _
                        have k4 : IntKind.i64.wrap (((k + 1 : Nat) : Int) - 1) = (k : Int) := by
                          rw [show ((k + 1 : Nat) : Int) - 1 = (k : Int) by omega]; exact IntWalk.i64_in _ (by omega)
                        clear x0 x1 x2 y0 y1 y2 hx hy hm hbx gx
                        go_wp2_with fail
                        go_quiet (fail)
                        clear t1 k4
                        go_wp2
                        go_roundw
                        case rel => exact ⟨k + 2, by go_num, by omega, by omega, drewN_more hW.out _⟩
                        case measure => simp [intOf]; omega
                      · obtain ⟨m, hm⟩ := hW.out
                        have HR8 : Hid (RowEd wr a2 U) := by rw [hm]; exact HRU.out
                        have HB8 : Hid (Below w.heap.size w wr) := by rw [hm]; exact below_drewN (HB4.out.trans (HB7.out.mono hs4)) m
                        have HAQ := Lib.hid (apply_perm Q a2 c2 U U wr 3000 hGs HR8.out (by omega) HU.out.2.1 (by decide) (List.Perm.refl _) HU.out.1 HU.out.2.2.2.1)
                        rw [HU.out.2.2.1] at HAQ
                        clear hm hW
                        have h8s := HB8.out.size
                        go_wp2_with fail
                        refine HAQ.out.mono ?_
                        rintro e w9 ⟨rfl, hB9⟩
                        have HB9 : Hid (Below w.heap.size w w9) := HB8.out.trans (hB9.mono h8s)
                        have h9s := HB9.out.size
                        clear hB9 HAQ
                        go_wp2_with fail
                        refine (known_any _).mono ?_
                        rintro e w10 ⟨rfl, hB10⟩
                        have HB10 : Hid (Below w.heap.size w w10) := HB9.out.trans (hB10.mono h9s)
                        clear hB10
                        go_wp2
                        go_ret
                        exact ⟨rfl, HB10.out⟩

        · as_aux_lemma =>
          have HBAD := Lib.hid hbad
          clear hbad HMAY
          obtain ⟨rfl, rfl⟩ : G = ⟨#[]⟩ ∧ er = 4 := by
            rcases HOA.out with ⟨_, h⟩ | ⟨h, _⟩ | ⟨h, _⟩
            · exact h
            · exact absurd h HBAD.out
            · exact absurd h HBAD.out
          obtain ⟨rfl, rfl⟩ : n2 = 0 ∧ er2 = 4 := by
            rcases HOU3.out with ⟨_, h⟩ | ⟨h, _⟩ | ⟨h, _⟩
            · exact h
            · exact absurd h HBAD.out
            · exact absurd h HBAD.out
          have h4s : w.heap.size ≤ (wr.drewN m3).heap.size := hws
          have HB4 : Hid (Below w.heap.size w (wr.drewN m3)) := below_drewN HB3.out m3
          go_wp2_with fail
          refine (known_any _).mono ?_
          rintro e w5 ⟨rfl, hB5⟩
          have HB5 : Hid (Below w.heap.size w w5) := HB4.out.trans (hB5.mono h4s)
          clear hB5
          go_wp2
          go_ret
          exact ⟨rfl, HB5.out⟩

end Go.Proofs.Ytmlkeddiagmedaa
