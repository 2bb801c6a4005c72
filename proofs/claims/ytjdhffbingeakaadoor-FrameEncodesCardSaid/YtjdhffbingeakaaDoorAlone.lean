/- The walk of the statement that a framed block is one at its own place alone. Conditions: the payloads lie in memory; the table of the cyclic sum is laid. -/
import Derived.Test.YtjdhffbingeakaaDoorAwakeF
import Derived.Test.YtjdhffbingeakaaDoorDecode
namespace Go.Proofs.YtjdhffbingeakaaDoor
open Go.RowKit

def EncRes (kind : Int) (seq : Nat) (l : List Nat) (place : Int) (A : Option Addr) (m c : Nat) (er : Int) (w' : World) : Prop :=
  (∃ g k p : Nat, kind = (k : Int) ∧ place = (p : Int) ∧ k < 256 ∧ p < 2048 ∧ l.length ≤ 232 ∧ A = some ⟨g, 0, none⟩ ∧ m = 256 ∧ c = 256 ∧ er = 0 ∧ Bk w' g 5 (u8s (encN k seq l p)).toArray) ∨ ((er = 1 ∨ er = 2) ∧ errN kind place l.length = er ∧ A = none ∧ m = 0 ∧ c = 0)
theorem encode_res (kind : Int) (seq : Nat) (place : Int) (A : Option Addr) (n c : Nat) (l : List Nat) (hn : n = l.length) (hs : seq < 18446744073709551616) (w : World) (hA : Seg w A (u8s l)) (hl : ∀ x ∈ l, x < 256) (hT : Tab w) :
    Calls Tryd.prog 8 #[.agg #[.int .i64 kind, .int .u64 seq, .slice A n c], .int .i64 place] w fun e w' => ∃ A' m' c' er, e = .returned (.tuple #[.slice A' m' c', .int .i64 er]) ∧ EncRes kind seq l place A' m' c' er w' ∧ Below w.heap.size w w' := by
  refine (encode_any kind seq place A n c l hn hs w hA hl hT).mono ?_
  rintro e w' (⟨g, k, p, h1, h2, h3, h4, h5, h6, rfl, h8, h9, h10⟩ | ⟨er, h1, h2, rfl, h4⟩)
  · exact ⟨_, _, _, _, rfl, .inl ⟨g, k, p, h1, h2, h3, h4, h5, rfl, rfl, rfl, rfl, h9⟩, h10⟩
  · exact ⟨_, _, _, _, rfl, .inr ⟨h2, h1, rfl, rfl, rfl⟩, h4⟩
theorem EncRes.bel {kind : Int} {seq : Nat} {l : List Nat} {place : Int} {A : Option Addr} {m c : Nat} {er : Int} {w w' : World} (h : EncRes kind seq l place A m c er w) (hb : Below w.heap.size w w') : EncRes kind seq l place A m c er w' := by
  rcases h with ⟨g, k, p, h1, h2, h3, h4, h5, h6, h7, h8, h9, h10⟩ | h
  · exact .inl ⟨g, k, p, h1, h2, h3, h4, h5, h6, h7, h8, h9, h10.bel hb⟩
  · exact .inr h

/-- What stands in memory while two frames are framed. -/
structure AlW (w : World) (xa xb : Array Value) (A B : Option Addr) (la lb : List Nat) (w' : World) : Prop where
  boxa : Bk w' w.heap.size 31 xa
  boxb : Bk w' (w.heap.size + 1) 31 xb
  sega : Seg w' A (u8s la)
  segb : Seg w' B (u8s lb)
  bel : Below w.heap.size w w'
section
variable {w w' w'' : World} {xa xb : Array Value} {A B : Option Addr} {la lb : List Nat}
theorem AlW.step (h : AlW w xa xb A B la lb w') (hb : Below w'.heap.size w' w'') : AlW w xa xb A B la lb w'' :=
  ⟨h.boxa.bel hb, h.boxb.bel hb, h.sega.bel hb, h.segb.bel hb, h.bel.trans (hb.mono h.bel.size)⟩
theorem AlW.alloc (h : AlW w xa xb A B la lb w') (o : Obj) : AlW w xa xb A B la lb (w'.alloc o) := h.step ((Below.refl _ _).alloc (Nat.le_refl _) o)
theorem AlW.drew (h : AlW w xa xb A B la lb w') : AlW w xa xb A B la lb w'.drew := h.step (Below.refl _ _).drew
end
theorem AlW.sa {w w' : World} {x y z : Value} {xb : Array Value} {A B : Option Addr} {la lb : List Nat} (h : AlW w #[x, y, z] xb A B la lb w') :
    w'.cell? ⟨w.heap.size, 0, none⟩ = some x ∧ w'.cell? ⟨w.heap.size, 1, none⟩ = some y ∧ w'.cell? ⟨w.heap.size, 2, none⟩ = some z ∧ AlW w #[x, y, z] xb A B la lb w' := ⟨h.boxa.cell 0, h.boxa.cell 1, h.boxa.cell 2, h⟩
theorem AlW.sb {w w' : World} {x y z : Value} {xa : Array Value} {A B : Option Addr} {la lb : List Nat} (h : AlW w xa #[x, y, z] A B la lb w') :
    w'.cell? ⟨w.heap.size + 1, 0, none⟩ = some x ∧ w'.cell? ⟨w.heap.size + 1, 1, none⟩ = some y ∧ w'.cell? ⟨w.heap.size + 1, 2, none⟩ = some z ∧ AlW w xa #[x, y, z] A B la lb w' := ⟨h.boxb.cell 0, h.boxb.cell 1, h.boxb.cell 2, h⟩

/-- A framed block, read at whatever place. -/
theorem decode_enc (k s p : Nat) (pl : List Nat) (b off c : Nat) (hc : 256 ≤ c) (hk : k < 256) (hs : s < 18446744073709551616) (hp : p < 2048) (hl : pl.length ≤ 232) (hpl : ∀ x ∈ pl, x < 256) (other : Int) (w : World) (hA : Seg w (some ⟨b, off, none⟩) (u8s (encN k s pl p))) (hT : Tab w) :
    Calls Tryd.prog 13 #[.slice (some ⟨b, off, none⟩) 256 c, .int .i64 other] w fun e w' => ∃ A' c' k' s' n' er, e = .returned (.tuple #[.agg #[.int .i64 k', .int .u64 s', .slice A' n' c'], .int .i64 er]) ∧ ((er == 0) = decide (other = (p : Int))) ∧ Below w.heap.size w w' := by
  have hlen := encN_length k s pl p hl
  have hle : leGet (((encN k s pl p).drop 4).take 2) ≤ 232 := by
    rw [encN_len, leGet_leN, Nat.mod_eq_of_lt (Nat.lt_of_le_of_lt hl (by decide))]; exact hl
  refine (decode_main b off c (encN k s pl p) hlen.symm hc other w hA (encN_lt k s pl p hk hpl) hT hle).mono ?_
  rintro e w' (⟨hf, A', c', rfl, _, _, hb⟩ | ⟨hf, rfl, hb⟩)
  · have := fits_only k s pl p hs hl hp other hf
    exact ⟨_, _, _, _, _, _, rfl, by simp [this], hb⟩
  · have : ¬ other = (p : Int) := fun e => hf (by rw [e]; exact fits_enc k s pl p hs hl hp)
    exact ⟨_, _, _, _, _, _, rfl, by simp [this], hb⟩
theorem four_ways (k k' sa sb p : Nat) (la lb : List Nat) (hk : k < 256) (hk' : k' < 256) (hs : sa < 18446744073709551616) (hs' : sb < 18446744073709551616) (hl : la.length ≤ 232) (hl' : lb.length ≤ 232) (hp : p < 2048) (ha : ∀ x ∈ la, x < 256) (hb : ∀ x ∈ lb, x < 256) :
    ((((k : Int) == (k' : Int)) = false) ∧ ((txt (encN k sa la p)).toList == (txt (encN k' sb lb p)).toList) = false) ∨
    ((((k : Int) == (k' : Int)) = true) ∧ (((sa : Int) == (sb : Int)) = false) ∧ ((txt (encN k sa la p)).toList == (txt (encN k' sb lb p)).toList) = false) ∨
    (∃ b : Bool, (((k : Int) == (k' : Int)) = true) ∧ (((sa : Int) == (sb : Int)) = true) ∧ ((txt la).toList == (txt lb).toList) = b ∧ ((txt (encN k sa la p)).toList == (txt (encN k' sb lb p)).toList) = b) := by
  have hx := encN_lt k sa la p hk ha
  have hy := encN_lt k' sb lb p hk' hb
  rw [txt_beq hx hy, txt_beq ha hb]
  have inj := @encN_inj k sa la p k' sb lb p hs hs' hl hl' (by omega) (by omega)
  by_cases h1 : k = k'
  · by_cases h2 : sa = sb
    · refine .inr (.inr ⟨decide (la = lb), by simp [h1], by simp [h2], rfl, ?_⟩)
      by_cases h3 : la = lb
      · subst h1 h2 h3; simp
      · have : ¬ encN k sa la p = encN k' sb lb p := fun e => h3 (inj e).2.2.1
        simp [this, h3]
    · have : ¬ encN k sa la p = encN k' sb lb p := fun e => h2 (inj e).2.1
      exact .inr (.inl ⟨by simp [h1], by rw [beq_eq_false_iff_ne]; omega, by simp [this]⟩)
  · have : ¬ encN k sa la p = encN k' sb lb p := fun e => h1 (inj e).1
    exact .inl ⟨by rw [beq_eq_false_iff_ne]; omega, by simp [this]⟩
set_option maxRecDepth 100000 in
set_option maxHeartbeats 4000000 in
theorem alone_any (ka kb : Int) (sa sb : Nat) (A B : Option Addr) (na ca nb cb : Nat) (la lb : List Nat) (place other : Int) (hna : na = la.length) (hnb : nb = lb.length) (hca : na ≤ ca) (hcb : nb ≤ cb) (hza : na ≤ 140737488355000) (hzb : nb ≤ 140737488355000)
    (hsa : sa < 18446744073709551616) (hsb : sb < 18446744073709551616) (w : World) (hA : Seg w A (u8s la)) (hB : Seg w B (u8s lb)) (hla : ∀ x ∈ la, x < 256) (hlb : ∀ x ∈ lb, x < 256) (hT : Tab w) :
    Calls Tryd.prog 6 #[.agg #[.int .i64 ka, .int .u64 sa, .slice A na ca], .agg #[.int .i64 kb, .int .u64 sb, .slice B nb cb], .int .i64 place, .int .i64 other] w fun e w' => e = .returned (.bool true) ∧ Below w.heap.size w w' := by
  obtain ⟨i0, hi0, hz0, hz1, hz2⟩ := info_parts info5
  have H0' : AlW w #[.int .i64 ka, .int .u64 sa, .slice A na ca] #[.int .i64 kb, .int .u64 sb, .slice B nb cb] A B la lb ((w.alloc (.cells #[.int .i64 ka, .int .u64 sa, .slice A na ca] 31)).alloc (.cells #[.int .i64 kb, .int .u64 sb, .slice B nb cb] 31)) := by
    have hb : Below w.heap.size w ((w.alloc (.cells #[.int .i64 ka, .int .u64 sa, .slice A na ca] 31)).alloc (.cells #[.int .i64 kb, .int .u64 sb, .slice B nb cb] 31)) := ((Below.refl _ _).alloc (Nat.le_refl _) _).alloc (by simp) _
    have h1 := Bk.new (w.alloc (.cells #[.int .i64 ka, .int .u64 sa, .slice A na ca] 31)) 31 #[.int .i64 kb, .int .u64 sb, .slice B nb cb]
    rw [World.size_alloc] at h1
    exact ⟨(Bk.new w _ _).alloc _, h1, hA.bel hb, hB.bel hb, hb⟩
  have HNa := Lib.hid hna
  have HNb := Lib.hid hnb
  have HLa := Lib.hid hla
  have HLb := Lib.hid hlb
  have HT := Lib.hid hT
  clear hna hnb hla hlb hT hA hB
  have hcut : ∀ (w1 : World), Below w1.heap.size w1 ((w1.alloc (.cells #[] 5)).drew) := fun w1 => ((Below.refl _ _).alloc (Nat.le_refl _) _).drew
  have HC := Lib.hid hcut
  clear hcut
  go_enter Tryd.func6, Tryd.ntmps6
  go_wp2_with fail
  generalize (w.alloc (.cells #[.int .i64 ka, .int .u64 sa, .slice A na ca] 31)).alloc (.cells #[.int .i64 kb, .int .u64 sb, .slice B nb cb] 31) = w1 at *
  have H0 := Lib.hid H0'
  have hS := H0'.sa
  clear H0'
  go_region_held3 (fun w' => w'.cell? ⟨w.heap.size, 0, none⟩ = some (.int .i64 ka) ∧ w'.cell? ⟨w.heap.size, 1, none⟩ = some (.int .u64 sa) ∧ w'.cell? ⟨w.heap.size, 2, none⟩ = some (.slice A na ca) ∧ AlW w #[.int .i64 ka, .int .u64 sa, .slice A na ca] #[.int .i64 kb, .int .u64 sb, .slice B nb cb] A B la lb w')
    (first
      | (with_reducible assumption)
      | (with_reducible exact AlW.sa (H0.out.drew))
      | (with_reducible exact AlW.sa ((H0.out.alloc _).drew))
      | (with_reducible exact AlW.sa (H0.out.step b1))
      | (with_reducible exact AlW.sa (H0.out.step b2)))
    (first
      | (refine step_append_seg _ rfl _ _ _ rfl w1.heap.size 5 i0 _ 1 Tryd.underlying23 hi0 hz0 hz1 hz2 rfl _ 0 _ rfl (show (w1.alloc (.cells #[] 5)).drew.ownsRow _ _ _ _ _ _ from World.ownsRow_lit w1 #[] 0 (by omega) (by decide) rfl) A na ca (u8s la) rfl (by rw [u8s_length, HNa.out]) (H0.out.sega.bel (HC.out w1)) (u8s_one _) (by simp only [maxLen]; omega) (by omega) (HC.out w1).size ?_; intro v' w' hown' hb'; simp only [Nat.zero_add, List.nil_append] at hown'; obtain ⟨A1, c1, rfl, hc1, s1⟩ := own_shape hown'; have S1 := Lib.hid s1; have b1 := (HC.out w1).trans hb'; clear hown' hb' s1)
      | (go_at_call 8; refine (encode_res ka sa place A1 na c1 la HNa.out hsa _ S1.out HLa.out (HT.out.below (H0.out.step b1).bel)).mono ?_; rintro e w' ⟨A2, m2, c2, er2, rfl, e2, b2'⟩; have E2 := Lib.hid e2; have b2 := below_step b1 b2'; clear e2 b2'))
  clear hS
  have H2 := Lib.hid (H0.out.step b2)
  have T2 := Lib.hid (HT.out.below H2.out.bel)
  clear b1 b2
  rename_i hHeld
  clear hHeld H0 S1
  go_wp2_with fail
  have hS2 := H2.out.sb
  go_region_held3 (fun w' => w'.cell? ⟨w.heap.size + 1, 0, none⟩ = some (.int .i64 kb) ∧ w'.cell? ⟨w.heap.size + 1, 1, none⟩ = some (.int .u64 sb) ∧ w'.cell? ⟨w.heap.size + 1, 2, none⟩ = some (.slice B nb cb) ∧ AlW w #[.int .i64 ka, .int .u64 sa, .slice A na ca] #[.int .i64 kb, .int .u64 sb, .slice B nb cb] A B la lb w')
    (first
      | (with_reducible assumption)
      | (with_reducible exact AlW.sb (H2.out.drew))
      | (with_reducible exact AlW.sb ((H2.out.alloc _).drew))
      | (with_reducible exact AlW.sb (H2.out.step b3))
      | (with_reducible exact AlW.sb (H2.out.step b4)))
    (first
      | (refine step_append_seg _ rfl _ _ _ rfl w'.heap.size 5 i0 _ 1 Tryd.underlying23 hi0 hz0 hz1 hz2 rfl _ 0 _ rfl (show (w'.alloc (.cells #[] 5)).drew.ownsRow _ _ _ _ _ _ from World.ownsRow_lit w' #[] 0 (by omega) (by decide) rfl) B nb cb (u8s lb) rfl (by rw [u8s_length, HNb.out]) (H2.out.segb.bel (HC.out w')) (u8s_one _) (by simp only [maxLen]; omega) (by omega) (HC.out w').size ?_; intro v3 w3 hown' hb'; simp only [Nat.zero_add, List.nil_append] at hown'; obtain ⟨A3, c3, rfl, hc3, s3⟩ := own_shape hown'; have S3 := Lib.hid s3; have b3 := (HC.out w').trans hb'; clear hown' hb' s3)
      | (go_at_call 8; refine (encode_res kb sb place A3 nb c3 lb HNb.out hsb _ S3.out HLb.out (HT.out.below (H2.out.step b3).bel)).mono ?_; rintro e w4 ⟨A4, m4, c4, er4, rfl, e4, b4'⟩; have E4 := Lib.hid e4; have b4 := below_step b3 b4'; clear e4 b4'))
  clear hS2
  have H4 := Lib.hid (H2.out.step b4)
  have T4 := Lib.hid (HT.out.below H4.out.bel)
  have E3 := Lib.hid (E2.out.bel b4)
  clear b3 b4
  rename_i hHeld
  clear hHeld H2 S3 E2 T2
  rcases E3.out with ⟨g, k, p, rfl, rfl, k256, p2048, l232, rfl, rfl, rfl, rfl, bk⟩ | ⟨her, _, rfl, rfl, rfl⟩
  · rcases E4.out with ⟨g', k', p', rfl, hp', k256', _, l232', rfl, rfl, rfl, rfl, bk'⟩ | ⟨her, _, rfl, rfl, rfl⟩
    · obtain rfl : p' = p := by omega
      have HW := four_ways k k' sa sb p' la lb k256 k256' hsa hsb l232 l232' p2048 HLa.out HLb.out
      have X1 := Lib.hid (encN_lt k sa la p' k256 HLa.out)
      have Y1 := Lib.hid (encN_lt k' sb lb p' k256' HLb.out)
      have X2 := Lib.hid (show 256 = (encN k sa la p').length from (encN_length _ _ _ _ l232).symm)
      have Y2 := Lib.hid (show 256 = (encN k' sb lb p').length from (encN_length _ _ _ _ l232').symm)
      have DE := Lib.hid (fun b off c hc w hA hT => decode_enc k sa p' la b off c hc k256 hsa p2048 l232 HLa.out other w hA hT)
      have SX := Lib.hid (show Seg w4 (some ⟨g, 0, none⟩) (u8s (encN k sa la p')) from Seg.of_block bk (fun i hi => by simp))
      have SY := Lib.hid (show Seg w4 (some ⟨g', 0, none⟩) (u8s (encN k' sb lb p')) from Seg.of_block bk' (fun i hi => by simp))
      obtain ⟨b0, hb0⟩ : ∃ b0, decide (other = (p' : Int)) = b0 := ⟨_, rfl⟩
      have hot : (other == (p' : Int)) = b0 := by rw [← hb0]; rfl
      have HB0 := Lib.hid hb0
      clear bk bk' E3 E4 hp' hb0
      generalize encN k sa la p' = X at *
      generalize encN k' sb lb p' = Y at *
      have cvA := Lib.hid (fun W (h : Seg W A (u8s la)) => run_txt W A na ca la HNa.out h HLa.out)
      have cvB := Lib.hid (fun W (h : Seg W B (u8s lb)) => run_txt W B nb cb lb HNb.out h HLb.out)
      have cvX := Lib.hid (fun W (h : Seg W (some ⟨g, 0, none⟩) (u8s X)) => run_txt W (some ⟨g, 0, none⟩) 256 256 X X2.out h X1.out)
      have cvY := Lib.hid (fun W (h : Seg W (some ⟨g', 0, none⟩) (u8s Y)) => run_txt W (some ⟨g', 0, none⟩) 256 256 Y Y2.out h Y1.out)
      generalize txt la = ta at *
      generalize txt lb = tb at *
      generalize txt X = tx at *
      generalize txt Y = ty at *
      rcases HW with ⟨q1, q4⟩ | ⟨q1, q2, q4⟩ | ⟨b3, q1, q2, q3, q4⟩
      all_goals
        go_wp2_with (first
          | (at_builtin; refine wpList_append_seg _ rfl _ _ _ rfl w4.heap.size 5 i0 _ 1 Tryd.underlying23 hi0 hz0 hz1 hz2 rfl _ 0 _ rfl (World.ownsRow_lit w4 #[] 0 (by omega) (by decide) rfl) (some ⟨g, 0, none⟩) 256 256 (u8s X) rfl (by rw [u8s_length, X2.out]) (SX.out.bel ((Below.refl _ _).alloc (Nat.le_refl _) _)) (u8s_one _) (by decide) (by decide) (by simp) ?_; intro v5 w5 hown5 hb5; simp only [Nat.zero_add, List.nil_append] at hown5; obtain ⟨A5, c5, rfl, hc5, s5⟩ := own_shape hown5; obtain ⟨b5, o5, rfl, _, _, _⟩ := s5.pick (k := 0) (by rw [u8s_length, ← X2.out]; omega); have S5 := Lib.hid s5; have B5 := Lib.hid (((Below.refl w4.heap.size w4).alloc (Nat.le_refl _) (.cells #[] 5)).trans hb5); clear hown5 hb5 s5)
          | (go_at_call 13; refine (DE.out b5 o5 c5 hc5 _ S5.out (HT.out.below (below_step H4.out.bel B5.out))).mono ?_; rintro e w6 ⟨A6, c6, k6, s6, n6, er6, rfl, her6, b6⟩; rw [HB0.out] at her6; have B6 := Lib.hid (below_step B5.out b6); have H6 := Lib.hid (H4.out.step B6.out); have H7 := Lib.hid (H6.out.alloc (.cells #[.int .i64 k6, .int .u64 s6, .slice A6 n6 c6] 25)); have y0 := H7.out.boxa.cell 0; have y1 := H7.out.boxa.cell 1; have y2 := H7.out.boxa.cell 2; have y3 := H7.out.boxb.cell 0; have y4 := H7.out.boxb.cell 1; have y5 := H7.out.boxb.cell 2; have cA := cvA.out _ H7.out.sega; have cB := cvB.out _ H7.out.segb; clear b6)
          | (go_at_call 11; refine (awake_any _ (HT.out.below H7.out.bel)).mono ?_; rintro e w8 ⟨rfl, b8⟩; have B8 := Lib.hid (below_step H7.out.bel b8); have cX := cvX.out _ ((SX.out.bel B6.out).bel (((Below.refl _ _).alloc (Nat.le_refl _) (.cells #[.int .i64 k6, .int .u64 s6, .slice A6 n6 c6] 25)).trans (b8.mono (by simp)))); have cY := cvY.out _ ((SY.out.bel B6.out).bel (((Below.refl _ _).alloc (Nat.le_refl _) (.cells #[.int .i64 k6, .int .u64 s6, .slice A6 n6 c6] 25)).trans (b8.mono (by simp)))); clear b8))
        go_ret
        exact ⟨by simp [q4], B8.out⟩
    · have her' : (er4 != 0) = true := by rw [bne_iff_ne]; omega
      clear E4 E3 her
      go_wp2_with (go_at_call 11; refine (awake_any _ T4.out).mono ?_; rintro e w5 ⟨rfl, b5⟩; have B5 := Lib.hid (below_step H4.out.bel b5); clear b5)
      go_ret
      exact ⟨rfl, B5.out⟩
  · have her' : (er2 != 0) = true := by rw [bne_iff_ne]; omega
    clear E4 E3 her
    go_wp2_with (go_at_call 11; refine (awake_any _ T4.out).mono ?_; rintro e w5 ⟨rfl, b5⟩; have B5 := Lib.hid (below_step H4.out.bel b5); clear b5)
    go_ret
    exact ⟨rfl, B5.out⟩
end Go.Proofs.YtjdhffbingeakaaDoor
