/- slices.Delete at []string of one text out of a row of one's own. Condition: the place lies in the row. -/
import Derived.Test.YtcnfnfnmpifahaaPIns2
import Derived.Lib.RowBridge
namespace Go.Proofs.Ytcnfnfnmpifahaa
open Go.RowKit Go.Shelf Go.Lib Go.Sort

/-- What a deletion leaves: the row without its place i. -/
structure DelP (B : Nat) (v : Value) (ks : List ByteArray) (i : Nat) (w : World) (v' : Value) (w' : World) : Prop where
  row : w'.ownsRow B 9 1 v' (ks.length - 1) (strV (ks.take i ++ ks.drop (i + 1)))
  kept : KeptO v w w'
  bel : Below B w w'
  at' : v'.ownBlock = v.ownBlock

theorem encStr_list (s : ByteArray) : encStr s.data.toList = Value.string s := rfl

set_option maxRecDepth 100000 in
theorem delete_any (B : Nat) (v : Value) (ks : List ByteArray) (i : Nat) (w : World) (hown : w.ownsRow B 9 1 v ks.length (strV ks)) (hi : i < ks.length) (y : Int) (hy : y = (i : Int) + 1) :
    Calls Try.prog 37 #[v, .int .i64 (i : Nat), .int .i64 y] w fun e w' => ∃ v', e = .returned v' ∧ DelP B v ks i w v' w' := by
  rcases hown.2 with ⟨rfl, h0⟩ | ⟨g, c, cur, rfl, hBg, hb, hc, hcm, hcs, htk⟩
  · omega
  · have hbk : Bk w g 9 cur := hb
    have hcur : cur.size = c := by omega
    have htk' : cur.toList.take ks.length = strV ks := by rw [← htk]; congr 1; omega
    let zs : List (List UInt8) := ks.map (fun s => s.data.toList)
    have hzl : zs.length = ks.length := by simp [zs]
    have hH : Holds encStr w g 0 zs.toArray := fun j hj => by
      have hjl : j < ks.length := by simpa [zs] using hj
      refine ⟨?_, hbk.frozen _⟩
      rw [Nat.zero_add, hbk.cell j]
      have h1 : (strV ks)[j]? = some (Value.string ks[j]) := by simp [strV, hjl]
      rw [← htk', List.getElem?_take, if_pos hjl, Array.getElem?_toList] at h1
      rw [h1]
      simp [zs, hjl, encStr_list]
    have hcall := Any.slices_Delete_string lays24 g 0 c i (i + 1) zs w hH (by omega) (by unfold maxLen at hcm; omega) (by omega) (by omega)
    rw [hzl] at hcall
    rw [hy]
    refine hcall.mono ?_
    rintro e w' ⟨rfl, q, rfl⟩
    have hL : (zs.take i ++ zs.drop (i + 1) ++ List.replicate (i + 1 - i) []).length = ks.length := by simp [hzl]; omega
    rw [putRow_eq_setCells encStr w g 0 zs.toArray _ q hH (by rw [hL]; simp [hzl])]
    have hbq : Bk (w.drewN q) g 9 cur := hbk
    have hM : (zs.take i ++ zs.drop (i + 1) ++ List.replicate (i + 1 - i) []).map encStr = strV (ks.take i ++ ks.drop (i + 1)) ++ [Value.string ⟨#[]⟩] := by
      rw [show i + 1 - i = 1 by omega]
      simp [zs, strV, List.map_take, List.map_drop, Function.comp_def]
    have hl2 : (strV (ks.take i ++ ks.drop (i + 1))).length = ks.length - 1 := by rw [strV_length]; simp; omega
    have hP := Bk.puts ((zs.take i ++ zs.drop (i + 1) ++ List.replicate (i + 1 - i) []).map encStr) 0 hbq
    refine ⟨_, rfl, ⟨?_, Or.inr ⟨g, c, laid cur 0 ((zs.take i ++ zs.drop (i + 1) ++ List.replicate (i + 1 - i) []).map encStr), by rw [show ks.length - (i + 1 - i) = ks.length - 1 by omega], hBg, ?_, by omega, hcm, ?_, ?_⟩⟩, ?_, (below_drewN (Below.refl B w) q).trans (below_puts hBg _ _ _), rfl⟩
    · rw [hl2]; omega
    · exact hP
    · rw [laid_size]; omega
    · rw [laid_list _ _ _ (by rw [List.length_map, hL]; omega), hM]
      rw [show (ks.length - 1) * 1 = (strV (ks.take i ++ ks.drop (i + 1))).length by rw [hl2]; omega]
      simp
    · exact ⟨(below_puts (Nat.zero_le g) _ _ (w.drewN q)).size, fun b hb1 hb2 => keep_puts _ _ _ b (fun he => hb2 (by rw [he]; rfl))⟩
end Go.Proofs.Ytcnfnfnmpifahaa
