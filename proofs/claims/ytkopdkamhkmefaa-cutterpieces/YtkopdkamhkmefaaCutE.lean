/- Package cutter: the first chunk. -/
import Derived.Test.YtkopdkamhkmefaaCutC
namespace Go.Proofs.Ytkopdkamhkmefaa
set_option maxRecDepth 100000
open Go Go.RowKit
set_option linter.unusedVariables false
set_option linter.unusedSimpArgs false

theorem cutF_whole {p d k mn mx : Nat} {o : List UInt8} (h : NoEnd p d k mn mx o) (h0 : 0 < o.length) : cutF p d k mn mx o = o.length := cutF_all h0 (fun i h1 h2 => h i h1 (by omega))
theorem take_next {l : List UInt8} {j : Nat} (h : j < l.length) : l.take (j + 1) = l.take j ++ [l[j]] := by rw [List.take_succ_eq_append_getElem h]

set_option maxRecDepth 100000 in
set_option maxHeartbeats 4000000 in
theorem cfirst_any (g p d k mn mx : Nat) (own : List Nat) (l : List UInt8) (w : World) (B : Nat) (A : Option Addr) (n c : Nat) (h : Ck w own g p d k mn mx []) (hs : Sl w B A n (cb l)) (hB : B ≤ w.heap.size) (ho : 0 < n → ∀ ad, A = some ad → ad.block ∉ own) (h0 : 0 < n) (hn : n ≤ 2000000) (hk : mx ≤ 4096) :
    Calls Try.prog 26 #[.pointer (some ⟨g, 0, none⟩), .slice A n c] w fun e w' => e = .returned (.int .i64 (cutF p d k mn mx l : Nat)) ∧ Turns own w w' ∧ (cutF p d k mn mx l < l.length → Ck w' own g p d k mn mx []) := by
  have hnl : n = l.length := by rw [← hs.1, cb_len]
  have HNL := Lib.hid hnl
  have HS := Lib.hid hs
  have HO := Lib.hid ho
  have HCK := Lib.hid h
  obtain ⟨F, hF⟩ : ∃ F, F = cutF p d k mn mx l := ⟨_, rfl⟩
  rw [← hF]
  have HF := Lib.hid hF
  clear hnl hs ho h hF
  go_enter Try.func26, Try.ntmps26
  go_wp2
  refine wp_scope_back 0 (fun a' w' => ∃ (j : Nat) (u2 u3 u6 u7 u8 u9 u10 u11 u12 u13 u14 u15 u16 u17 u18 u19 u20 u21 u22 : Value), a' = { tmps := #[.pointer (some ⟨g, 0, none⟩), .slice A n c, u2, u3, .int .i64 0, .int .i64 (j : Int), u6, u7, u8, u9, u10, u11, u12, u13, u14, u15, u16, u17, u18, u19, u20, u21, u22], defers := [] } ∧ j < n ∧ Ck w' own g p d k mn mx (l.take j) ∧ Turns own w w') (fun a' _ => n - (intOf (a'.tmps.getD 5 undef)).toNat) rfl ?first ?pass
  case first =>
    intro hgo
    go_wp2
    go_step3
    rename_i hKK
    refine hKK _ _ (hgo _ _ ?_)
    exact ⟨0, _, _, _, _, _, _, _, _, _, _, _, _, _, _, _, _, _, _, _, rfl, h0, by rw [List.take_zero]; exact HCK.out, Turns.refl _ _⟩
  case pass =>
    rintro a' wr ⟨j, u2, u3, u6, u7, u8, u9, u10, u11, u12, u13, u14, u15, u16, u17, u18, u19, u20, u21, u22, rfl, hj, hck, hT⟩
    have hjl : j < l.length := by have := HNL.out; omega
    have hsr := hT.sl HS.out hB (fun hn ad e => HO.out hn ad e)
    obtain ⟨ad, rfl, hbl, hcw⟩ := hsr.byte hjl
    obtain ⟨x, hx⟩ : ∃ x, x = l[j] := ⟨_, rfl⟩
    have htk := take_next hjl
    rw [← hx] at hcw htk
    have hdr : l = (l.take j ++ [x]) ++ l.drop (j + 1) := by rw [← htk, List.take_append_drop]
    have hno := hck.no
    have HPU := Lib.hid (cpush_any g p d k mn mx own (l.take j) x wr hck (by have := hck.no.few hck.mx1; omega))
    unfold CkPost at HPU
    obtain ⟨E, hE⟩ : ∃ E, E = endB p d k mn mx (l.take j ++ [x]) := ⟨_, rfl⟩
    rw [← hE] at HPU
    have j0 : (0 : Int) ≤ (j : Int) := by omega
    have j1 : (j : Int) < (n : Int) := by omega
    have j2 : (j : Int) + 1 - 1 = (j : Int) := by omega
    have hlj : (l.take j).length = j := by rw [List.length_take]; omega
    have HTN := Lib.hid htk
    have HT := Lib.hid hT
    cases E with
    | true =>
      have hF1 : F = j + 1 := by rw [HF.out, hdr, cutF_end hno x hE.symm, hlj]
      have HF1 := Lib.hid hF1
      clear hF1 hdr hno hE hx hck hsr htk hT hlj
      go_wp2_with fail
      refine HPU.out.mono ?_
      rintro e w5 ⟨rfl, hck5, hT5⟩
      replace hck5 : Ck w5 own g p d k mn mx [] := by simpa using hck5
      have HCK5 := Lib.hid hck5
      have HT5 := Lib.hid (HT.out.trans hT5)
      clear hck5 hT5 hcw HPU
      go_wp2
      try simp only [Exit.jump]
      go_ret
      exact ⟨ret_int (by rw [HF1.out]; omega), HT5.out, fun _ => HCK5.out⟩
    | false =>
      have hno2 := hno.push x hE.symm
      rw [← htk] at hno2
      have HNO := Lib.hid hno2
      by_cases hlast : j + 1 < n
      · have j3 : (j : Int) + 1 < (n : Int) := by omega
        clear hdr hno hE hx hck hsr htk hT hlj hno2
        go_wp2_with fail
        refine HPU.out.mono ?_
        rintro e w5 ⟨rfl, hck5, hT5⟩
        replace hck5 : Ck w5 own g p d k mn mx (l.take j ++ [x]) := by simpa using hck5
        rw [← HTN.out] at hck5
        have HCK5 := Lib.hid hck5
        have HT5 := Lib.hid (HT.out.trans hT5)
        clear hck5 hT5 hcw HPU
        go_wp2
        go_step3
        refine ⟨rfl, ⟨j + 1, _, _, _, _, _, _, _, _, _, _, _, _, _, _, _, _, _, _, _, rfl, hlast, HCK5.out, HT5.out⟩, ?_⟩
        simp [intOf]; omega
      · have j3 : ¬ (j : Int) + 1 < (n : Int) := by omega
        have hjn : j + 1 = l.length := by have := HNL.out; omega
        have hF1 : F = j + 1 := by
          rw [hjn, List.take_length] at hno2
          rw [HF.out, cutF_whole hno2 (by omega), hjn]
        have hF2 : ¬ F < l.length := by omega
        have HF1 := Lib.hid hF1
        have HF2 := Lib.hid hF2
        clear hF1 hF2 hdr hno hE hx hck hsr htk hT hlj hno2 hjn
        go_wp2_with fail
        refine HPU.out.mono ?_
        rintro e w5 ⟨rfl, hck5, hT5⟩
        have HT5 := Lib.hid (HT.out.trans hT5)
        clear hck5 hT5 hcw HPU
        go_wp2
        try simp only [Exit.jump]
        go_ret
        exact ⟨ret_int (by rw [HF1.out]; omega), HT5.out, fun h => absurd h HF2.out⟩

end Go.Proofs.Ytkopdkamhkmefaa
