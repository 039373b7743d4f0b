import Derived.Test.YtcfgbiaahangmaaGreatDoorB5
set_option maxHeartbeats 1000000
namespace Go.Proofs.YtcfgbiaahangmaaGreatDoor
open Go.Proofs.Tryz
open Go.RowKit
structure Rw where
 k : Int
 n : Int
 s : ByteArray
 e : Int
def Rw.v (r : Rw) : V:=nm r.k r.n r.s r.e
structure Ag where
 area : Bool
 l : List Rw
def one1 : List Rw → V
 | []=>.blank
 | r :: _=>r.v
def seen1 (a : Ag) : List (V × Bool):=if a.area then a.l.map (fun r=>(r.v,true)) else [(one1 a.l,false)]
def seen (l : List Ag) : List (V × Bool):=l.flatMap seen1
def numF (v : V) (area : Bool) : V:=if area then (match v with | .tf _=>.blank | .text _=>.blank | u=>u) else v.toNum
def truF (v : V) (area : Bool) : V:=if area then (match v with | .blank=>.blank | .text _=>.blank | u=>u.toBool) else v.toBool
def texF (v : V) (_ : Bool) : V:=v.toText
def goes (v : V) : Bool:=!(v.k == 0) && !(v.k == 4)
def got (f : V → Bool → V) : List (V × Bool) → List V
 | []=>[]
 | p :: l=>if goes (f p.1 p.2) then f p.1 p.2 :: got f l else got f l
def bad (f : V → Bool → V) : List (V × Bool) → V
 | []=>.blank
 | p :: l=>if (f p.1 p.2).k = 4 then f p.1 p.2 else bad f l
def sumN : List V → Int
 | []=>0
 | v :: l=>v.n + sumN l
def bestF (p : Int → Int → Bool) (b : Int) : List V → Int
 | []=>b
 | v :: l=>bestF p (if p v.n b then v.n else b) l
def bestN (p : Int → Int → Bool) : List V → Int
 | []=>0
 | v :: l=>bestF p v.n l
def ltB (a b : Int) : Bool:=decide (a < b)
def gtB (a b : Int) : Bool:=decide (a > b)
def truN : List V → Nat
 | []=>0
 | v :: l=>(if v.n = 0 then 0 else 1) + truN l
def catF (a : List UInt8) : List V → List UInt8
 | []=>a
 | v :: l=>catF (if a.length ≤ 300 then a ++ v.s.data.toList else a) l
def allC : List V → List UInt8
 | []=>[]
 | v :: l=>v.s.data.toList ++ allC l
def meanQ (x n : Int) : Int:=(2 * absI x + n) / (2 * n)
def meanB (x n : Int) : Bool:=decide (1 ≤ n) && decide (meanQ x n ≤ 9223372036854775807)
def meanV (x n : Int) : Int:=if meanB x n then (if x < 0 then -meanQ x n else meanQ x n) else 0
def orBad (b v : V) : V:=if b.k = 4 then b else v
def fSum (l : List Ag) : V:=orBad (bad numF (seen l)) (toldR (toldB (sumN (got numF (seen l)))) (toldV (sumN (got numF (seen l)))))
def fCount (l : List Ag) : V:=mkNum (((got numF (seen l)).length : Int) * 10000)
def fBest (p : Int → Int → Bool) (l : List Ag) : V:=orBad (bad numF (seen l)) (mkNum (bestN p (got numF (seen l))))
def fMean (l : List Ag) : V:=orBad (bad numF (seen l)) (if (got numF (seen l)).length = 0 then .err 3 else toldR (meanB (sumN (got numF (seen l))) (got numF (seen l)).length) (meanV (sumN (got numF (seen l))) (got numF (seen l)).length))
def fTruth (b : Bool) (l : List Ag) : V:=orBad (bad truF (seen l)) (if (got truF (seen l)).length = 0 then .err 2 else .tf b)
def fAnd (l : List Ag) : V:=fTruth (decide (truN (got truF (seen l)) = (got truF (seen l)).length)) l
def fOr (l : List Ag) : V:=fTruth (decide (0 < truN (got truF (seen l)))) l
def fCat (l : List Ag) : V:=orBad (bad texF (seen l)) (mkText (bs (allC (got texF (seen l)))))
theorem got_app (f : V → Bool → V) (a b : List (V × Bool)) : got f (a ++ b) = got f a ++ got f b:=by
 induction a with
 | nil=>rfl
 | cons p a ih =>
   show (if goes (f p.1 p.2) then f p.1 p.2 :: got f (a ++ b) else got f (a ++ b)) = (if goes (f p.1 p.2) then f p.1 p.2 :: got f a else got f a) ++ got f b
   split
   · rw [ih];rfl
   · exact ih
theorem bad_app (f : V → Bool → V) (a b : List (V × Bool)) : bad f (a ++ b) = if (bad f a).k = 4 then bad f a else bad f b:=by
 induction a with
 | nil=>rfl
 | cons p a ih =>
   show (if (f p.1 p.2).k = 4 then f p.1 p.2 else bad f (a ++ b)) = if (if (f p.1 p.2).k = 4 then f p.1 p.2 else bad f a).k = 4 then (if (f p.1 p.2).k = 4 then f p.1 p.2 else bad f a) else bad f b
   by_cases h : (f p.1 p.2).k = 4
   · simp only [h,if_true]
   · simp only [h,if_false];exact ih
theorem bad_kind (f : V → Bool → V) (l : List (V × Bool)) : bad f l = .blank ∨ (bad f l).k = 4:=by
 induction l with
 | nil=>exact .inl rfl
 | cons p l ih =>
   by_cases h : (f p.1 p.2).k = 4
   · exact .inr (by simp only [bad,h,if_true])
   · simp only [bad,h,if_false];exact ih
theorem got_len (f : V → Bool → V) (l : List (V × Bool)) : (got f l).length ≤ l.length:=by
 induction l with
 | nil=>exact Nat.le_refl _
 | cons p l ih =>
   unfold got
   split
   · simp;exact ih
   · simp;omega
theorem sumN_app (a b : List V) : sumN (a ++ b) = sumN a + sumN b:=by
 induction a with
 | nil=>simp [sumN]
 | cons v a ih=>simp only [List.cons_append,sumN,ih];omega
theorem truN_app (a b : List V) : truN (a ++ b) = truN a + truN b:=by
 induction a with
 | nil=>simp [truN]
 | cons v a ih=>simp only [List.cons_append,truN,ih];omega
theorem truN_le (a : List V) : truN a ≤ a.length:=by
 induction a with
 | nil=>exact Nat.le_refl _
 | cons v a ih=>simp only [truN,List.length_cons];split <;> omega
theorem bestF_app (p : Int → Int → Bool) (b : Int) (l : List V) (v : V) : bestF p b (l ++ [v]) = if p v.n (bestF p b l) then v.n else bestF p b l:=by
 induction l generalizing b with
 | nil=>rfl
 | cons u l ih=>exact ih _
theorem bestN_app (p : Int → Int → Bool) (l : List V) (v : V) : bestN p (l ++ [v]) = if l.length = 0 then v.n else if p v.n (bestN p l) then v.n else bestN p l:=by
 cases l with
 | nil=>rfl
 | cons u l =>
   rw [if_neg J58]
   exact bestF_app p u.n l v
theorem catF_app (a : List UInt8) (l : List V) (v : V) : catF a (l ++ [v]) = if (catF a l).length ≤ 300 then catF a l ++ v.s.data.toList else catF a l:=by
 induction l generalizing a with
 | nil=>rfl
 | cons u l ih=>exact ih _
theorem catF_long (a : List UInt8) (l : List V) (h : 300 < a.length) : catF a l = a:=by
 induction l with
 | nil=>rfl
 | cons v l ih=>show catF (if a.length ≤ 300 then _ else a) l = a;rw [if_neg J2];exact ih
theorem catF_all (a : List UInt8) (l : List V) : catF a l = a ++ allC l ∨ (300 < (catF a l).length ∧ 300 < (a ++ allC l).length):=by
 induction l generalizing a with
 | nil=>exact .inl (by simp [catF,allC])
 | cons v l ih =>
   by_cases h : a.length ≤ 300
   · have e : catF a (v :: l) = catF (a ++ v.s.data.toList) l:=by show catF (if a.length ≤ 300 then _ else a) l = _;rw [if_pos h]
     rw [e]
     have:=ih (a ++ v.s.data.toList)
     simpa only [allC,List.append_assoc] using this
   · refine .inr ⟨?_,?_⟩
     · rw [catF_long a _ J2];omega
     · rw [List.length_append];omega
theorem bs_len (l : List UInt8) : (bs l).size = l.length:=by show l.toArray.size = _;simp
theorem cat_text (l : List V) : mkText (bs (catF [] l)) = mkText (bs (allC l)):=by
 rcases catF_all [] l with h | ⟨h1,h2⟩
 · rw [h];rfl
 · unfold mkText
   rw [bs_len,bs_len,if_neg J2,if_neg (by simpa using h2)]
theorem numF_ok (v : V) (a : Bool) (h : v.ok) : (numF v a).k = 0 ∨ (∃ e,numF v a = .err e ∧ 1 ≤ e ∧ e ≤ 5) ∨ ∃ n,numF v a = .num n ∧ I64 n ∧ canB n = true:=by
 cases a with
 | false =>
   rcases toNum_cases v h with ⟨n,hn,h2⟩ | ⟨e,he,h2⟩
   · exact .inr (.inr ⟨n,hn,h2⟩)
   · exact .inr (.inl ⟨e,he,h2⟩)
 | true =>
   cases v with
   | blank=>exact .inl rfl
   | tf b=>exact .inl rfl
   | num n=>exact .inr (.inr ⟨n,rfl,h⟩)
   | text s=>exact .inl rfl
   | err e=>exact .inr (.inl ⟨e,rfl,h⟩)
def AllN (l : List V) : Prop:=∀ v ∈ l,∃ n,v = .num n ∧ I64 n ∧ canB n = true
def OkS (l : List (V × Bool)) : Prop:=∀ p ∈ l,p.1.ok
theorem got_nums (l : List (V × Bool)) (h : OkS l) : AllN (got numF l):=by
 induction l with
 | nil=>intro v hv;exact absurd hv (by simp [got])
 | cons p l ih =>
   have ih:=ih (fun q hq=>h q (by simp [hq]))
   unfold got
   split
   · rename_i g
     intro v hv
     rcases List.mem_cons.1 hv with rfl | hv
     · rcases numF_ok p.1 p.2 (h p J58) with k | ⟨e,k,_⟩ | k
       · simp [goes,k] at g
       · simp [goes,k,V.k] at g
       · exact k
     · exact ih v hv
   · exact ih
def AgI (l : List Ag) : Prop:=∀ a ∈ l,∀ r ∈ a.l,I64 r.n
theorem seen_ok (l : List Ag) (h : AgI l) : OkS (seen l):=by
 intro p hp
 obtain ⟨a,ha,hp⟩:=List.mem_flatMap.1 hp
 unfold seen1 at hp
 split at hp
 · obtain ⟨r,hr,rfl⟩:=List.mem_map.1 hp
   exact nm_ok _ _ _ _ (h a ha r hr)
 · simp at hp
   subst hp
   have:=h a ha
   cases hl : a.l with
   | nil=>trivial
   | cons r t=>exact nm_ok _ _ _ _ (this r J51)
theorem sum_le {l : List V} {c : Int} (h : ∀ v ∈ l,v.n ≤ c) : sumN l ≤ l.length * c:=by
 exact K72
theorem le_sum {l : List V} {c : Int} (h : ∀ v ∈ l,c ≤ v.n) : l.length * c ≤ sumN l:=by
 exact K72
theorem neg_mod (n b : Int) (hb : 0 < b) : (-n) % b = if n % b = 0 then 0 else b - n % b:=by
 have h1:=Int.emod_add_mul_ediv n b
 have h2:=Int.emod_nonneg n (show b ≠ 0 by omega)
 have h3:=Int.emod_lt_of_pos n hb
 generalize n % b = r at *
 generalize n / b = q at *
 split
 · rename_i h
   have : -n = b * (-q):=by rw [Int.mul_neg];omega
   rw [this,Int.mul_emod_right]
 · have : -n = (b - r) + b * (-q - 1):=by rw [Int.mul_sub,Int.mul_neg,Int.mul_one];omega
   rw [this,Int.add_mul_emod_self_left,Int.emod_eq_of_lt J2 J2]
def fm (a b : Int) : Int:=if 0 < b then a % b else -((-a) % (-b))
theorem tmod_pos (a b : Int) (ha : 0 ≤ a) : a.tmod b = a % b:=Int.tmod_eq_emod_of_nonneg ha
theorem tmod_neg' (a b : Int) (ha : a < 0) : a.tmod b = -((-a) % b):=by
 have:=Int.tmod_eq_emod_of_nonneg (a:=-a) (b:=b) J2
 rw [Int.neg_tmod] at this
 omega
theorem emod_negb (a b : Int) : a % (-b) = a % b:=Int.emod_neg a b
theorem fm_ways (a b : Int) (hb : b ≠ 0) : (a.tmod b = 0 → fm a b = 0) ∧ ((a.tmod b < 0 ∧ b < 0) ∨ (0 < a.tmod b ∧ 0 < b) → fm a b = a.tmod b) ∧ ((a.tmod b < 0 ∧ 0 < b) ∨ (0 < a.tmod b ∧ b < 0) → fm a b = a.tmod b + b) ∧ (a.tmod b < b ∨ b < 0) ∧ (a.tmod b < -b ∨ 0 < b) ∧ (-b < a.tmod b ∨ b < 0) ∧ (b < a.tmod b ∨ 0 < b):=by
 unfold fm
 by_cases ha : 0 ≤ a
 · rw [tmod_pos a b ha]
   by_cases hp : 0 < b
   · have h2:=Int.emod_nonneg a hb
     have h3:=Int.emod_lt_of_pos a hp
     rw [if_pos hp]
     generalize a % b = r at *
     refine ⟨fun h=>?_,fun h=>?_,fun h=>?_,?_,?_,?_,?_⟩ <;> omega
   · have e : a % b = a % (-b):=(emod_negb a b).symm
     have n:=neg_mod a (-b) J2
     have h2:=Int.emod_nonneg a (show -b ≠ 0 by omega)
     have h3:=Int.emod_lt_of_pos a (show 0 < -b by omega)
     rw [e,n]
     rw [if_neg hp]
     generalize a % (-b) = r at *
     exact K155
 · rw [tmod_neg' a b J2]
   by_cases hp : 0 < b
   · have n:=neg_mod (-a) b hp
     rw [Int.neg_neg] at n
     have h2:=Int.emod_nonneg (-a) hb
     have h3:=Int.emod_lt_of_pos (-a) hp
     rw [n]
     rw [if_pos hp]
     generalize (-a) % b = r at *
     exact K155
   · have e : (-a) % b = (-a) % (-b):=(emod_negb (-a) b).symm
     have h2:=Int.emod_nonneg (-a) (show -b ≠ 0 by omega)
     have h3:=Int.emod_lt_of_pos (-a) (show 0 < -b by omega)
     rw [e]
     rw [if_neg hp]
     generalize (-a) % (-b) = r at *
     refine ⟨fun h=>?_,fun h=>?_,fun h=>?_,?_,?_,?_,?_⟩ <;> omega
theorem fm_bd (a b : Int) (hb : b ≠ 0) : (0 < b → 0 ≤ fm a b ∧ fm a b < b) ∧ (b < 0 → b < fm a b ∧ fm a b ≤ 0):=by
 unfold fm
 constructor
 · intro h
   simp only [h,if_true]
   exact ⟨Int.emod_nonneg a hb,Int.emod_lt_of_pos a h⟩
 · intro h
   have h2:=Int.emod_nonneg (-a) (show -b ≠ 0 by omega)
   have h3:=Int.emod_lt_of_pos (-a) (show 0 < -b by omega)
   rw [if_neg J2]
   omega
def modB (a b : Int) : Bool:=(canB a && canB b) && b != 0
def modV (a b : Int) : Int:=if modB a b then fm a b else 0
theorem modB_yes {a b : Int} (h : (canB a && canB b) = true) (hz : b ≠ 0) : modB a b = true:=by unfold modB;rw [h];simp [hz]
theorem modV_yes {a b : Int} (h : (canB a && canB b) = true) (hz : b ≠ 0) : modV a b = fm a b:=by unfold modV;rw [modB_yes h hz];rfl
theorem modB_no {a b : Int} (h : (canB a && canB b) = false) : modB a b = false:=by unfold modB;rw [h];rfl
theorem modV_no {a b : Int} (h : (canB a && canB b) = false) : modV a b = 0:=by unfold modV;rw [modB_no h];rfl
theorem modB_nought (a : Int) : modB a 0 = false:=by unfold modB;simp
theorem modV_nought (a : Int) : modV a 0 = 0:=by unfold modV;rw [modB_nought];rfl
theorem mod_go (a b m : Int) (ha : I64 a) (hb : I64 b) (hc : (canB a && canB b) = true) (hz : b ≠ 0) (hm : a.tmod b = m) (r : Int)
   (hr : (m = 0 ∧ r = 0) ∨ (m < 0 ∧ b < 0 ∧ r = m) ∨ (0 < m ∧ 0 < b ∧ r = m) ∨ (m < 0 ∧ 0 < b ∧ r = m + b) ∨ (0 < m ∧ b < 0 ∧ r = m + b))
   (m1 : -9223372036854775808 ≤ m) (m2 : m ≤ 9223372036854775807) (w : World) :
   Calls Tryz.prog 246 #[.int .i64 a,.int .i64 b] w fun e w'=>e = .returned (.tuple #[.int .i64 r,.bool true]) ∧ Ext w w':=by
 have hz1 : (b == 0) = false:=by simp [hz]
 have hz3 : ¬ b = 0:=hz
 obtain ⟨a1,a2⟩:=ha;obtain ⟨b1,b2⟩:=hb
 clear hz
 rcases hr with ⟨h1,h3⟩ | ⟨h1,h2,h3⟩ | ⟨h1,h2,h3⟩ | ⟨h1,h2,h3⟩ | ⟨h1,h2,h3⟩
 all_goals
   have H3 : Hid (r = _):=h3
   clear h3
 · subst h1
   exact K34
 all_goals
   have k1 : (m != 0) = true:=J7
   have k2 : ¬ m = 0:=J2
 · have k3 : decide (m < 0) = true:=J7
   have k4 : decide (b < 0) = true:=J7
   exact K34
 · have k3 : decide (m < 0) = false:=J7
   have k4 : decide (b < 0) = false:=J7
   exact K34
 · have k3 : decide (m < 0) = true:=J7
   have k4 : decide (b < 0) = false:=J7
   exact K34
 · have k3 : decide (m < 0) = false:=J7
   have k4 : decide (b < 0) = true:=J7
   exact K34
theorem mod_any (a b : Int) (ha : I64 a) (hb : I64 b) (w : World) : Calls Tryz.prog 246 #[.int .i64 a,.int .i64 b] w fun e w'=>e = .returned (.tuple #[.int .i64 (modV a b),.bool (modB a b)]) ∧ Ext w w':=by
 cases hc : (canB a && canB b)
 · have HC : Hid (modB a b = false):=modB_no hc
   have HV : Hid (modV a b = 0):=modV_no hc
   go_enter func246,ntmps246
   exact K43
 by_cases hz : b = 0
 · subst hz
   have HC : Hid (modB a 0 = false):=modB_nought a
   have HV : Hid (modV a 0 = 0):=modV_nought a
   go_enter func246,ntmps246
   go_wp2_with (go_at_call 219;refine Calls.mono (numbers_2 a 0 w.heap.size _ J17 J17) ?_;rintro e w' ⟨rfl,rfl⟩)
   go_ret2
   exact ⟨ret_ib HV.out.symm HC.out.symm,xr.alloc _⟩
 · rw [modB_yes hc hz,modV_yes hc hz]
   obtain ⟨f1,f2,f3,f4,f5,f6,f7⟩:=fm_ways a b hz
   have hb':=hb
   obtain ⟨b1,b2⟩:=hb'
   refine mod_go a b (a.tmod b) ha hb hc hz rfl (fm a b) ?_ J2 J2 w
   generalize a.tmod b = m at *
   by_cases k0 : m = 0
   · exact Or.inl ⟨k0,f1 k0⟩
   refine Or.inr ?_
   by_cases k1 : m < 0
   · by_cases k2 : b < 0
     · exact Or.inl ⟨k1,k2,f2 (Or.inl ⟨k1,k2⟩)⟩
     · exact Or.inr (Or.inr (Or.inl ⟨k1,by omega,f3 (Or.inl ⟨k1,by omega⟩)⟩))
   · by_cases k2 : b < 0
     · exact Or.inr (Or.inr (Or.inr ⟨by omega,k2,f3 (Or.inr ⟨by omega,k2⟩)⟩))
     · exact Or.inr (Or.inl ⟨by omega,by omega,f2 (Or.inr ⟨by omega,by omega⟩)⟩)
theorem ten_le {k : Nat} (h : k < 18) : 10 ^ k ≤ 100000000000000000:=Nat.pow_le_pow_right (n:=10) J2 (show k ≤ 17 by omega)
theorem ten_le' {k : Nat} (h : k ≤ 18) : 10 ^ k ≤ 1000000000000000000:=Nat.pow_le_pow_right (n:=10) J2 h
theorem power_any (n : Nat) (hn : n ≤ 18) (w : World) : Calls Tryz.prog 244 #[.int .i64 n] w fun e w'=>e = .returned (.int .i64 ((10 ^ n : Nat) : Int)) ∧ w' = w:=by
 go_enter func244,ntmps244
 go_wp2
 go_loop [3,5] (fun p i=>∃ k : Nat,k ≤ n ∧ i = .int .i64 k ∧ p = .int .i64 ((10 ^ k : Nat) : Int)) (fun _ i=>n - (intOf i).toNat)
 case atStart=>exact ⟨0,Nat.zero_le _,rfl,rfl⟩
 case round =>
   obtain ⟨k,hk,rfl,rfl⟩:=hrel
   by_cases hlt : k < n
   · have hb:=ten_le (k:=k) J2
     have HS : Hid (10 ^ (k + 1) = 10 ^ k * 10):=Nat.pow_succ 10 k
     obtain ⟨P,hP⟩ : ∃ P,P = 10 ^ k:=⟨_,rfl⟩
     rw [← hP] at hb ⊢
     have HP : Hid (P = 10 ^ k):=hP
     clear hP
     have i1 : (P : Int) ≤ 100000000000000000:=J2
     clear hb
     go_wp2
     go_round
     case rel=>exact ⟨k + 1,by omega,by go_num,congrArg (Value.int .i64) (by rw [HS.out,← HP.out];omega)⟩
     case measure=>simp [intOf];omega
   · go_wp2
     go_ret
     have : k = n:=J2
     subst this
     exact ⟨rfl,rfl⟩
def floorB (a : Int) : Bool:=canB a && subB a (a % 10000)
def floorV (a : Int) : Int:=if canB a then subV a (a % 10000) else 0
theorem mod1_bd (a : Int) : I64 (a % 10000):=⟨by omega,by omega⟩
theorem modB_one (a : Int) : modB a 10000 = canB a:=by
 unfold modB
 have : canB 10000 = true:=by decide
 rw [this]
 simp
theorem modV_one (a : Int) (h : canB a = true) : modV a 10000 = a % 10000:=by
 unfold modV fm
 rw [modB_one,h]
 rfl
theorem floor_any (a : Int) (ha : I64 a) (w : World) : Calls Tryz.prog 195 #[.int .i64 a] w fun e w'=>e = .returned (.tuple #[.int .i64 (floorV a),.bool (floorB a)]) ∧ Ext w w':=by
 have c1:=fun W=>mod_any a 10000 ha ⟨by omega,by omega⟩ W
 have c2:=fun W=>sub_any a (a % 10000) ha (mod1_bd a) W
 rw [modB_one] at c1
 cases hc : canB a
 · have HC : Hid (floorB a = false):=by show floorB a = false;unfold floorB;rw [hc];rfl
   have HV : Hid (floorV a = 0):=by show floorV a = 0;unfold floorV;rw [hc];rfl
   rw [hc] at c1
   generalize modV a 10000 = m at *
   go_enter func195,ntmps195
   go_wp2_with fail
   refine (c1 _).mono ?_
   rintro e w1 ⟨rfl,E1⟩
   go_wp2
   go_ret2
   exact ⟨ret_ib HV.out.symm HC.out.symm,E1⟩
 · have HC : Hid (floorB a = subB a (a % 10000)):=by show floorB a = _;unfold floorB;rw [hc];rfl
   have HV : Hid (floorV a = subV a (a % 10000)):=by show floorV a = _;unfold floorV;rw [hc];rfl
   rw [hc,modV_one a hc] at c1
   generalize a % 10000 = m at *
   go_enter func195,ntmps195
   go_wp2_with fail
   refine (c1 _).mono ?_
   rintro e w1 ⟨rfl,E1⟩
   go_wp2_with fail
   refine (c2 _).mono ?_
   rintro e w2 ⟨rfl,E2⟩
   go_wp2
   go_ret2
   exact ⟨ret_ib HV.out.symm HC.out.symm,E1.trans E2⟩
def rndP (d : Int) : Nat:=10 ^ (4 - d).toNat
def rnN (a d : Int) : Nat:=nearQ a.natAbs (rndP d) * rndP d
def rndB (a d : Int) : Bool:=canB a && (decide (4 ≤ d) || (decide (d < -14) || sgnB (rnN a d)))
def rndV (a d : Int) : Int:=if canB a then (if 4 ≤ d then a else if d < -14 then 0 else sgnV (decide (a < 0)) (rnN a d)) else 0
theorem near_mul (A P : Nat) : (P ≤ 2 * (A % P) → nearQ A P * P = A / P * P + P) ∧ (¬ P ≤ 2 * (A % P) → nearQ A P * P = A / P * P):=by
 unfold nearQ
 constructor
 · intro h;rw [if_pos h,Nat.add_mul,Nat.one_mul]
 · intro h;rw [if_neg h,Nat.add_zero]
theorem ten_even (n : Nat) (h : 1 ≤ n) : 10 ^ n / 2 * 2 = 10 ^ n:=by
 obtain ⟨k,rfl⟩ : ∃ k,n = k + 1:=⟨n - 1,by omega⟩
 rw [Nat.pow_succ]
 omega
theorem tmod_abs (a : Int) (P : Nat) : a.tmod P = if a < 0 then -((a.natAbs % P : Nat) : Int) else ((a.natAbs % P : Nat) : Int):=by
 split
 · rw [tmod_neg' a P J2]
   have : -a = (a.natAbs : Int):=J2
   rw [this,Int.natCast_emod]
 · rw [tmod_pos a P J2]
   have : a = (a.natAbs : Int):=J2
   rw [Int.natCast_emod,← this]
theorem round_w4 (a : Int) (n P R T : Nat) (hc : canB a = true) (d1 : ¬ (4 : Int) ≤ 4 - (n : Int)) (d2 : ¬ (4 : Int) - (n : Int) < -14)
   (cP : ∀ W,Calls Tryz.prog 244 #[.int .i64 n] W fun e w'=>e = .returned (.int .i64 P) ∧ w' = W)
   (e5 : (4 : Int) - (4 - (n : Int)) = n) (ht : a.tmod (P : Int) = R) (ga : ¬ a < 0) (hin : a - (R : Int) = T) (gr : (P : Int) / 2 ≤ R) (_z3 : ¬ (P : Int) = 0)
   (q1 : (10 : Int) ≤ P) (q2 : (P : Int) ≤ 1000000000000000000) (_q3 : (R : Int) < P) (q4 : (T : Int) + R ≤ 9223372036854775807) (w : World) :
   Calls Tryz.prog 192 #[.int .i64 a,.int .i64 (4 - (n : Int))] w fun e w'=>e = .returned (.tuple #[.int .i64 (addV T P),.bool (addB T P)]) ∧ Ext w w':=by
 have c1:=fun W=>size_any (R : Int) ⟨by omega,by omega⟩ W
 have eR : absI (R : Int) = R:=J73
 rw [eR] at c1
 have c2:=fun W=>add_any (T : Int) P ⟨by omega,by omega⟩ ⟨by omega,by omega⟩ W
 have qT : (T : Int) ≤ 9223372036854775807:=J2
 clear eR q4
 go_enter func192,ntmps192
 go_wp2_with fail
 refine Calls.mono (numbers_1 a w.heap.size _ J17) ?_
 rintro e w' ⟨rfl,rfl⟩
 go_wp2_with fail
 refine (cP _).mono ?_
 rintro e w' ⟨rfl,rfl⟩
 go_wp2_with fail
 refine (c1 _).mono ?_
 rintro e w' ⟨rfl,rfl⟩
 go_wp2_with fail
 refine (c2 _).mono ?_
 rintro e w2 ⟨rfl,E2⟩
 go_wp2
 go_ret2
 exact ⟨rfl,(xr.alloc _).trans E2⟩
theorem round_mid (a d : Int) (ha : I64 a) (hc : canB a = true) (d1 : ¬ 4 ≤ d) (d2 : ¬ d < -14) (w : World) :
   Calls Tryz.prog 192 #[.int .i64 a,.int .i64 d] w fun e w'=>e = .returned (.tuple #[.int .i64 (sgnV (decide (a < 0)) (rnN a d)),.bool (sgnB (rnN a d))]) ∧ Ext w w':=by
 obtain ⟨n,hn⟩ : ∃ n : Nat,n = (4 - d).toNat:=⟨_,rfl⟩
 have hn1 : 1 ≤ n:=J2
 have hn2 : n ≤ 18:=J2
 have hd : d = 4 - (n : Int):=J2
 have hN : rnN a d = nearQ a.natAbs (10 ^ n) * 10 ^ n:=by unfold rnN rndP;rw [← hn]
 have cP:=fun W=>power_any n hn2 W
 have p1:=ten_le' hn2
 have p2 : 10 ≤ 10 ^ n:=Nat.pow_le_pow_right (n:=10) J2 hn1
 have p3:=ten_even n hn1
 obtain ⟨near1,near2⟩:=near_mul a.natAbs (10 ^ n)
 have hdm:=Nat.div_add_mod a.natAbs (10 ^ n)
 have hml:=Nat.mod_lt a.natAbs (show 0 < 10 ^ n by omega)
 have ht:=tmod_abs a (10 ^ n)
 rw [Nat.mul_comm] at hdm
 rw [← hN] at near1 near2
 obtain ⟨a1,a2⟩:=ha
 have a3 : -9223372036854775808 < a:=by unfold canB at hc;simp at hc;omega
 have hA : a.natAbs ≤ 9223372036854775807:=J2
 have sa : (a < 0 → a = -(a.natAbs : Int)) ∧ (0 ≤ a → a = (a.natAbs : Int)):=J2
 subst hd
 clear hn hN
 generalize rnN a (4 - (n : Int)) = N at *
 generalize a.natAbs / 10 ^ n * 10 ^ n = T at *
 generalize a.natAbs % 10 ^ n = R at *
 generalize a.natAbs = A at *
 generalize 10 ^ n = P at *
 have z3 : ¬ (P : Int) = 0:=J2
 have e5 : (4 : Int) - (4 - (n : Int)) = n:=J2
 have e6 : wrap64 ((4 : Int) - (4 - (n : Int))) = n:=by rw [e5];unfold wrap64;omega
 have HP : Hid (P / 2 * 2 = P):=p3
 have H1 : Hid (P ≤ 2 * R → N = T + P):=near1
 have H2 : Hid (¬ P ≤ 2 * R → N = T):=near2
 have HA : Hid (T + R = A):=hdm
 have q1 : (10 : Int) ≤ (P : Int):=J2
 have q2 : (P : Int) ≤ 1000000000000000000:=J2
 have q3 : (R : Int) < (P : Int):=J2
 have q4 : (T : Int) + (R : Int) ≤ 9223372036854775807:=J2
 have cp : canB (P : Int) = true:=J74
 clear p1 p2 p3 near1 near2 hml
 by_cases ga : a < 0
 · have ht' : a.tmod (P : Int) = -(R : Int):=by rw [ht,if_pos ga]
   have hi : a = -(T : Int) - (R : Int):=by have:=sa.1 ga;omega
   have c1:=fun W=>size_any (-(R : Int)) ⟨by omega,by omega⟩ W
   have eR : absI (-(R : Int)) = R:=J73
   rw [eR] at c1
   have c2:=fun W=>sub_any (-(T : Int)) P ⟨by omega,by omega⟩ ⟨by omega,by omega⟩ W
   have ed : decide (a < 0) = true:=by simp [ga]
   have hin : a - -(R : Int) = -(T : Int):=J2
   have hin2 : a + (R : Int) = -(T : Int):=J2
   have HI : Hid (a = -(T : Int) - (R : Int)):=hi
   clear ht sa hi hdm eR hA
   by_cases gr : (R : Int) < (P : Int) / 2
   · exact K46
   · have HN : Hid (N = T + P):=H1.out (by have:=HP.out;omega)
     have HB : Hid (subB (-(T : Int)) P = sgnB N):=by
       show subB (-(T : Int)) P = sgnB N
       rw [HN.out]
       unfold subB sgnB
       rw [cp]
       have : canB (-(T : Int)) = true:=J74
       rw [this]
       unfold fitB
       rw [Bool.eq_iff_iff]
       simp
       omega
     have HV : Hid (subV (-(T : Int)) P = sgnV true N):=by
       show subV (-(T : Int)) P = sgnV true N
       unfold subV sgnV
       rw [HB.out,HN.out]
       split
       · rw [if_pos rfl];omega
       · rfl
     go_enter func192,ntmps192
     go_wp2_with (first
       | (go_at_call 219;refine Calls.mono (numbers_1 a w.heap.size _ J17) ?_;rintro e w' ⟨rfl,rfl⟩)
       | (go_at_call 244;refine (cP _).mono ?_;rintro e w' ⟨rfl,rfl⟩)
       | (go_at_call 245;refine (c1 _).mono ?_;rintro e w' ⟨rfl,rfl⟩))
     refine (c2 _).mono ?_
     rintro e w2 ⟨rfl,E2⟩
     go_wp2
     go_ret2
     exact ⟨ret_ib (by rw [ed];exact HV.out) HB.out,(xr.alloc _).trans E2⟩
 · have ht' : a.tmod (P : Int) = (R : Int):=by rw [ht,if_neg ga]
   have hi : a = (T : Int) + (R : Int):=by have:=sa.2 J2;omega
   have c1:=fun W=>size_any (R : Int) ⟨by omega,by omega⟩ W
   have eR : absI (R : Int) = R:=J73
   rw [eR] at c1
   have c2:=fun W=>add_any (T : Int) P ⟨by omega,by omega⟩ ⟨by omega,by omega⟩ W
   have ed : decide (a < 0) = false:=J7
   have hin : a - (R : Int) = (T : Int):=J2
   clear ht sa hi hdm eR hA
   by_cases gr : (R : Int) < (P : Int) / 2
   · exact K46
   · have HN : Hid (N = T + P):=H1.out (by have:=HP.out;omega)
     have HB : Hid (addB (T : Int) P = sgnB N):=by
       show addB (T : Int) P = sgnB N
       rw [HN.out]
       unfold addB sgnB
       rw [cp]
       have : canB (T : Int) = true:=J74
       rw [this]
       unfold fitB
       rw [Bool.eq_iff_iff]
       simp
       omega
     have HV : Hid (addV (T : Int) P = sgnV false N):=by
       show addV (T : Int) P = sgnV false N
       unfold addV sgnV
       rw [HB.out,HN.out]
       split
       · rw [if_neg J9];omega
       · rfl
     rw [ed,← HV.out,← HB.out]
     exact round_w4 a n P R T hc d1 d2 cP e5 ht' ga hin J2 z3 q1 q2 q3 q4 w
theorem round_any (a d : Int) (ha : I64 a) (w : World) : Calls Tryz.prog 192 #[.int .i64 a,.int .i64 d] w fun e w'=>e = .returned (.tuple #[.int .i64 (rndV a d),.bool (rndB a d)]) ∧ Ext w w':=by
 cases hc : canB a
 · have HC : Hid (rndB a d = false):=by show rndB a d = false;unfold rndB;rw [hc];rfl
   have HV : Hid (rndV a d = 0):=by show rndV a d = 0;unfold rndV;rw [hc];rfl
   exact K61
 by_cases d1 : 4 ≤ d
 · have HC : Hid (rndB a d = true):=by show rndB a d = true;unfold rndB;rw [hc];simp [d1]
   have HV : Hid (rndV a d = a):=by show rndV a d = a;unfold rndV;rw [hc];simp [d1]
   exact K61
 by_cases d2 : d < -14
 · have HC : Hid (rndB a d = true):=by show rndB a d = true;unfold rndB;rw [hc];simp [d2]
   have HV : Hid (rndV a d = 0):=by show rndV a d = 0;unfold rndV;rw [hc];simp [d1,d2]
   exact K61
 · have hB : rndB a d = sgnB (rnN a d):=by unfold rndB;rw [hc];simp [d1,d2]
   have hV : rndV a d = sgnV (decide (a < 0)) (rnN a d):=by unfold rndV;rw [hc];simp [d1,d2]
   rw [hB,hV]
   exact round_mid a d ha hc d1 d2 w
theorem square_above (n N : Nat) (hn : n < 18446744073709551616) (w : World) :
   Calls Tryz.prog 248 #[.int .u64 n,.int .u64 ((N / 18446744073709551616 : Nat) : Int),.int .u64 ((N % 18446744073709551616 : Nat) : Int)] w fun e w'=>e = .returned (.bool (decide (N < n * n))) ∧ Ext w w':=by
 have c:=fun W=>mul64N n n hn hn W
 obtain ⟨S,hS⟩ : ∃ S,S = n * n:=⟨_,rfl⟩
 rw [← hS] at c ⊢
 have e1 : decide (N < S) = (decide (((N / 18446744073709551616 : Nat) : Int) < ((S / 18446744073709551616 : Nat) : Int)) || (decide (((S / 18446744073709551616 : Nat) : Int) = ((N / 18446744073709551616 : Nat) : Int)) && decide (((N % 18446744073709551616 : Nat) : Int) < ((S % 18446744073709551616 : Nat) : Int)))):=by
   rw [Bool.eq_iff_iff];simp only [Bool.or_eq_true,Bool.and_eq_true,decide_eq_true_eq];omega
 rw [e1]
 clear e1 hS
 generalize ((N / 18446744073709551616 : Nat) : Int) = hi at *
 generalize ((N % 18446744073709551616 : Nat) : Int) = lo at *
 generalize ((S / 18446744073709551616 : Nat) : Int) = h at *
 generalize ((S % 18446744073709551616 : Nat) : Int) = l at *
 go_enter func248,ntmps248
 go_wp2_with fail
 refine (c _).mono ?_
 rintro e w1 ⟨rfl,rfl⟩
 go_wp2
 all_goals
   simp [bodyPost,results,results248,go_sem, *]
   try exact xr
def IsRoot (N r : Nat) : Prop:=r * r ≤ N ∧ N < (r + 1) * (r + 1)
theorem IsRoot.one {N r s : Nat} (h : IsRoot N r) (k : IsRoot N s) : r = s:=by
 obtain ⟨a,b⟩:=h;obtain ⟨c,d⟩:=k
 rcases Nat.lt_trichotomy r s with g | g | g
 · have:=Nat.mul_le_mul (show r + 1 ≤ s from g) (show r + 1 ≤ s from g);omega
 · exact g
 · have:=Nat.mul_le_mul (show s + 1 ≤ r from g) (show s + 1 ≤ r from g);omega
def Rooted (N j r : Nat) : Prop:=r * r ≤ N ∧ N < (r + 2 ^ j) * (r + 2 ^ j) ∧ r % 2 ^ j = 0
theorem Rooted.lt {N j r : Nat} (h : Rooted N j r) (hN : N < 151115727451828646838272) : r < 549755813888:=by
 rcases Nat.lt_or_ge r 549755813888 with g | g
 · exact g
 · have:=Nat.mul_le_mul g g
   have:=h.1
   omega
theorem Rooted.no {N j r : Nat} (h : Rooted N (j + 1) r) (g : N < (r + 2 ^ j) * (r + 2 ^ j)) : Rooted N j r:=by
 refine ⟨h.1,g,?_⟩
 have:=h.2.2
 rw [Nat.pow_succ] at this
 exact Nat.mod_eq_zero_of_dvd (Nat.dvd_of_mod_eq_zero (show r % 2 ^ j = 0 from by
   have d:=Nat.dvd_of_mod_eq_zero this
   exact Nat.mod_eq_zero_of_dvd (Nat.dvd_trans (Nat.dvd_mul_right _ _) d)))
theorem Rooted.yes {N j r : Nat} (h : Rooted N (j + 1) r) (g : (r + 2 ^ j) * (r + 2 ^ j) ≤ N) : Rooted N j (r + 2 ^ j):=by
 refine ⟨g,?_,?_⟩
 · have:=h.2.1
   rw [Nat.pow_succ,Nat.mul_two,← Nat.add_assoc] at this
   exact this
 · have:=h.2.2
   rw [Nat.pow_succ] at this
   have d:=Nat.dvd_of_mod_eq_zero this
   rw [Nat.add_mod_right]
   exact Nat.mod_eq_zero_of_dvd (Nat.dvd_trans (Nat.dvd_mul_right _ _) d)
theorem Rooted.done {N r : Nat} (h : Rooted N 0 r) : IsRoot N r:=by
 obtain ⟨a,b,_⟩:=h
 exact ⟨a,b⟩
theorem or_pow (r j : Nat) (h : r % 2 ^ (j + 1) = 0) (hr : r < 549755813888) (hj : j ≤ 40) : bits .or .u64 (r : Int) ((2 ^ j : Nat) : Int) = ((r + 2 ^ j : Nat) : Int):=by
 have hp : 2 ^ j ≤ 2 ^ 40:=Nat.pow_le_pow_right J9 hj
 rw [bits_or_u64_nat _ _ J2 J2]
 obtain ⟨k,rfl⟩:=Nat.dvd_of_mod_eq_zero h
 rw [← Nat.two_pow_add_eq_or_of_lt (Nat.pow_lt_pow_right J9 (Nat.lt_succ_self j))]
theorem root_no (a : Int) (h : a < 0) (w : World) : Calls Tryz.prog 196 #[.int .i64 a] w fun e w'=>e = .returned (.tuple #[.int .i64 0,.bool false]) ∧ Ext w w':=by
 go_enter func196,ntmps196
 go_wp2
 go_ret2
 exact ⟨rfl,Ext.refl _⟩
theorem root_any (a : Nat) (ha : a ≤ 9223372036854775807) (w : World) : Calls Tryz.prog 196 #[.int .i64 a] w fun e w'=>(∃ r : Nat,e = .returned (.tuple #[.int .i64 r,.bool true]) ∧ IsRoot (a * 10000) r ∧ r < 549755813888) ∧ Ext w w':=by
 have hN : a * 10000 < 151115727451828646838272:=J2
 have ea : IntKind.u64.wrap (a : Int) = a:=J60
 have c:=fun W=>mul64N a 10000 J2 J2 W
 rw [show ((10000 : Nat) : Int) = 10000 from rfl] at c
 generalize hNe : a * 10000 = N at *
 have cs:=fun n hn W=>square_above n N hn W
 obtain ⟨H,hH⟩ : ∃ H,H = ((N / 18446744073709551616 : Nat) : Int):=⟨_,rfl⟩
 obtain ⟨L,hL⟩ : ∃ L,L = ((N % 18446744073709551616 : Nat) : Int):=⟨_,rfl⟩
 rw [← hH,← hL] at c cs
 clear hH hL hNe
 go_enter func196,ntmps196
 go_wp2_with fail
 refine (c _).mono ?_
 rintro e w1 ⟨rfl,rfl⟩
 go_wp2
 go_loopw [6,7] (fun x b wr=>∃ j r : Nat,j ≤ 39 ∧ x = .int .u64 (r : Int) ∧ b = .int .u64 ((2 ^ j / 2 : Nat) : Int) ∧ Rooted N j r ∧ Ext w1 wr) (fun _ b _=>(intOf b).toNat)
 case atStart=>exact ⟨39,0,Nat.le_refl _,rfl,rfl,⟨by omega,by simpa using (by omega : N < 302231454903657293676544),rfl⟩,Ext.refl _⟩
 case round =>
   obtain ⟨j,r,hj,rfl,rfl,hR,hE⟩:=hrel
   have hr:=hR.lt hN
   rcases Nat.eq_zero_or_pos j with rfl | hj0
   · have HR : Hid (IsRoot N r):=hR.done
     clear hR hN
     rw [show (((2 ^ 0 / 2 : Nat)) : Int) = 0 from rfl]
     go_wp2
     go_ret2
     exact ⟨⟨r,rfl,HR.out,hr⟩,hE⟩
   · obtain ⟨i,rfl⟩ : ∃ i,j = i + 1:=⟨j - 1,by omega⟩
     have eb : 2 ^ (i + 1) / 2 = 2 ^ i:=by rw [Nat.pow_succ];omega
     rw [eb]
     have eo:=or_pow r i hR.2.2 hr J2
     have hp : 2 ^ i ≤ 2 ^ 38:=Nat.pow_le_pow_right J9 J2
     have hp0 : 0 < 2 ^ i:=Nat.pow_pos J9
     have cs1:=fun W=>cs (r + 2 ^ i) J2 W
     have HN : Hid (N < (r + 2 ^ i) * (r + 2 ^ i) → Rooted N i r):=fun g=>hR.no g
     have HY : Hid (¬ N < (r + 2 ^ i) * (r + 2 ^ i) → Rooted N i (r + 2 ^ i)):=fun g=>hR.yes J2
     have HI : Hid (i ≤ 39):=by show i ≤ 39;omega
     have HP : Hid (((2 ^ i : Nat) : Int) / 2 = ((2 ^ i / 2 : Nat) : Int)):=by show ((2 ^ i : Nat) : Int) / 2 = _;omega
     generalize hpe : 2 ^ i = p at *
     have HE : Hid (2 ^ i = p):=hpe
     clear hpe eb
     have hpI : (0 : Int) < (p : Int):=J2
     clear hj hj0 hR hN cs
     by_cases hd : N < (r + p) * (r + p)
     · have HR : Hid (Rooted N i r):=HN.out hd
       have ed : decide (N < (r + p) * (r + p)) = true:=by simp [hd]
       rw [ed,Int.natCast_add] at cs1
       clear ed hd HN HY
       go_wp2_with fail
       refine (cs1 _).mono ?_
       rintro e w2 ⟨rfl,E2⟩
       go_wp2
       go_roundw
       case rel=>exact ⟨i,r,HI.out,rfl,by rw [HE.out,← HP.out],HR.out,hE.trans E2⟩
       case measure=>simp [intOf];omega
     · have HR : Hid (Rooted N i (r + p)):=HY.out hd
       have ed : decide (N < (r + p) * (r + p)) = false:=by simp [hd]
       rw [ed,Int.natCast_add] at cs1
       clear ed hd HN HY
       go_wp2_with fail
       refine (cs1 _).mono ?_
       rintro e w2 ⟨rfl,E2⟩
       go_wp2
       go_roundw
       case rel=>exact ⟨i,r + p,HI.out,rfl,by rw [HE.out,← HP.out],HR.out,hE.trans E2⟩
       case measure=>simp [intOf];omega
def Stands (w : World) (b : Nat) (N : Nat) (wr : World) : Prop:=(Ext w wr ∧ Pair wr b N) ∧ wr.cell? ⟨b,0,none⟩ = some (.int .u64 (uhi N)) ∧ wr.cell? ⟨b,1,none⟩ = some (.int .u64 (loOf N))
theorem Stands.mk' {w wr : World} {b N : Nat} (h : Ext w wr) (p : Pair wr b N) : Stands w b N wr:=⟨⟨h,p⟩,p.2.1,p.2.2.1⟩
theorem Stands.ext {w wr w' : World} {b N : Nat} (h : Stands w b N wr) (e : Ext wr w') : Stands w b N w':=Stands.mk' (h.1.1.trans e) (h.1.2.ext e)
def kn1 : List (List UInt8):=[[83,85,77],[67,79,85,78,84],[77,73,78],[77,65,88],[65,86,69,82,65,71,69],[65,78,68],[79,82],[67,79,78,67,65,84]]
def kn2 : List (List UInt8):=[[73,70],[73,78,68,69,88]]
def kn3 : List (List UInt8):=[[82,79,85,78,68],[77,79,68],[73,70,69,82,82,79,82]]
def kn4 : List (List UInt8):=[[76,69,70,84]]
def kn5 : List (List UInt8):=[[78,79,84],[65,66,83],[70,76,79,79,82],[83,81,82,84],[76,69,78],[73,83,69,82,82,79,82]]
def kno (s : List UInt8) : Option (Nat × Nat) :=
 if s ∈ kn1 then some (1,20) else if s ∈ kn2 then some (2,3) else if s ∈ kn3 then some (2,2) else if s ∈ kn4 then some (1,2) else if s ∈ kn5 then some (1,1) else none
def knA (s : List UInt8) : Int:=match kno s with
 | some (a,_)=>(a : Int)
 | none=>0
def knB (s : List UInt8) : Int:=match kno s with
 | some (_,b)=>(b : Int)
 | none=>0
structure Bg where
 g : Ag
 rows : Int
 cols : Int
def sgl (b : Bg) : V:=if b.g.area then .err 2 else one1 b.g.l
def sg (l : List Bg) (i : Nat) : V:=match l[i]? with
 | some b=>sgl b
 | none=>.err 2
def V.rw (v : V) : Rw:=⟨v.k,v.n,v.s,v.e⟩
abbrev R (α : Type):=Except Int α
def nuR (v : V) : R Int:=match v.toNum with
 | .err e=>.error e
 | u=>.ok u.n
def teR (v : V) : R ByteArray:=match v.toText with
 | .err e=>.error e
 | u=>.ok u.s
def trR (v : V) : R Bool:=match v.toBool with
 | .err e=>.error e
 | u=>.ok (u.n != 0)
def whN (n : Int) : Int:=n / 10000
def whR (v : V) : R Int:=(nuR v).map whN
def whO (l : List Bg) (i : Nat) : R Int:=if l.length ≤ i then .ok 1 else whR (sg l i)
def tolR (b : Bool) (n : Int) : R V:=if b then .ok (mkNum n) else .error 4
def rtN : Nat → Nat
 | 0=>0
 | n + 1=>if (rtN n + 1) * (rtN n + 1) ≤ n + 1 then rtN n + 1 else rtN n
theorem rt_is (n : Nat) : IsRoot n (rtN n):=by
 induction n with
 | zero=>exact ⟨by decide,by decide⟩
 | succ n ih =>
   obtain ⟨h1,h2⟩:=ih
   unfold rtN
   split
   · rename_i h
     refine ⟨h,?_⟩
     have : (rtN n + 1) * (rtN n + 1) = n + 1:=J2
     have e : (rtN n + 1 + 1) * (rtN n + 1 + 1) = (rtN n + 1) * (rtN n + 1) + 2 * (rtN n + 1) + 1:=by
       generalize rtN n + 1 = x
       rw [Nat.add_mul,Nat.mul_add];omega
     omega
   · rename_i h
     exact K129
def rootB (a : Int) : Bool:=decide (0 ≤ a)
def rootV (a : Int) : Int:=if 0 ≤ a then (rtN (a.toNat * 10000) : Int) else 0
def szN (n : Int) : Int:=if n < 0 then -n else n
def gsOf (l : List Bg) : List Ag:=l.map Bg.g
def xIf (l : List Bg) : R Rw:=match trR (sg l 0) with
 | .error e=>.error e
 | .ok t=>if t then .ok (sg l 1).rw else if l.length < 3 then .ok (V.tf false).rw else .ok (sg l 2).rw
def xNot (l : List Bg) : R Rw:=match trR (sg l 0) with
 | .error e=>.error e
 | .ok t=>.ok (V.tf (!t)).rw
def xAbs (l : List Bg) : R Rw:=match nuR (sg l 0) with
 | .error e=>.error e
 | .ok n=>.ok (mkNum (szN n)).rw
def xRound (l : List Bg) : R Rw:=match nuR (sg l 0) with
 | .error e=>.error e
 | .ok a=>match whR (sg l 1) with
   | .error e=>.error e
   | .ok d=>(tolR (rndB a d) (rndV a d)).map V.rw
def xMod (l : List Bg) : R Rw:=match nuR (sg l 0) with
 | .error e=>.error e
 | .ok a=>match nuR (sg l 1) with
   | .error e=>.error e
   | .ok b=>if b = 0 then .error 3 else (tolR (modB a b) (modV a b)).map V.rw
def xFloor (l : List Bg) : R Rw:=match nuR (sg l 0) with
 | .error e=>.error e
 | .ok a=>(tolR (floorB a) (floorV a)).map V.rw
def xSqrt (l : List Bg) : R Rw:=match nuR (sg l 0) with
 | .error e=>.error e
 | .ok a=>(tolR (rootB a) (rootV a)).map V.rw
def xLen (l : List Bg) : R Rw:=match teR (sg l 0) with
 | .error e=>.error e
 | .ok s=>.ok (mkNum ((s.size : Int) * 10000)).rw
def begB (s : ByteArray) (c : Int) : ByteArray:=s.extract 0 (min c (s.size : Int)).toNat
def xLeft (l : List Bg) : R Rw:=match teR (sg l 0) with
 | .error e=>.error e
 | .ok s=>match whO l 1 with
   | .error e=>.error e
   | .ok c=>if c < 0 then .error 2 else .ok (mkText (begB s c)).rw
def arOf (b : Bg) : Bg:=if b.g.area then b else ⟨⟨true,[(sgl b).rw]⟩,1,1⟩
def pkR (b : Bg) (row col : Int) : R Rw :=
 if row < 1 ∨ row > b.rows ∨ col < 1 ∨ col > b.cols ∨ col > (b.g.l.length : Int) then .error 1
 else if row - 1 > ((b.g.l.length : Int) - col) / b.cols then .error 1
 else match b.g.l[((row - 1) * b.cols + col - 1).toNat]? with
   | some r=>.ok r
   | none=>.error 1
def xIndex (l : List Bg) : R Rw:=match whR (sg l 1) with
 | .error e=>.error e
 | .ok row=>match whO l 2 with
   | .error e=>.error e
   | .ok col=>match l[0]? with
     | some b=>pkR (arOf b) row col
     | none=>.error 2
def xIsErr (l : List Bg) : R Rw:=.ok (V.tf ((sg l 0).k == 4)).rw
def xIfErr (l : List Bg) : R Rw:=if (sg l 0).k = 4 then .ok (sg l 1).rw else .ok (sg l 0).rw
def xCall (s : List UInt8) (l : List Bg) : R Rw :=
 if s = [83,85,77] then .ok (fSum (gsOf l)).rw
 else if s = [67,79,85,78,84] then .ok (fCount (gsOf l)).rw
 else if s = [77,73,78] then .ok (fBest ltB (gsOf l)).rw
 else if s = [77,65,88] then .ok (fBest gtB (gsOf l)).rw
 else if s = [65,86,69,82,65,71,69] then .ok (fMean (gsOf l)).rw
 else if s = [65,78,68] then .ok (fAnd (gsOf l)).rw
 else if s = [79,82] then .ok (fOr (gsOf l)).rw
 else if s = [67,79,78,67,65,84] then .ok (fCat (gsOf l)).rw
 else if s = [73,70] then xIf l
 else if s = [78,79,84] then xNot l
 else if s = [65,66,83] then xAbs l
 else if s = [82,79,85,78,68] then xRound l
 else if s = [77,79,68] then xMod l
 else if s = [70,76,79,79,82] then xFloor l
 else if s = [83,81,82,84] then xSqrt l
 else if s = [76,69,78] then xLen l
 else if s = [76,69,70,84] then xLeft l
 else if s = [73,78,68,69,88] then xIndex l
 else if s = [73,83,69,82,82,79,82] then xIsErr l
 else if s = [73,70,69,82,82,79,82] then xIfErr l
 else .error 2
def ansV : R Rw → V
 | .ok r=>r.v
 | .error e=>mkErr e
def okN (s : List UInt8) (n : Nat) : Bool:=(kno s).isSome && decide (knA s ≤ n) && decide ((n : Int) ≤ knB s)
def fnV (s : List UInt8) (l : List Bg) : V:=if okN s l.length then ansV (xCall s l) else .err 2
def letB (c : UInt8) : Bool:=decide (65 ≤ c.toNat ∧ c.toNat ≤ 90 ∨ 97 ≤ c.toNat ∧ c.toNat ≤ 122 ∨ c.toNat = 36)
def inW (c : UInt8) : Bool:=letB c || dgB c || c == 95
def run (p : UInt8 → Bool) (l : List UInt8) : Nat:=(l.takeWhile p).length
def numE (l : List UInt8) : Nat :=
 if l[run dgB l]? = some 46 ∧ 0 < run dgB (l.drop (run dgB l + 1)) then run dgB l + 1 + run dgB (l.drop (run dgB l + 1)) else run dgB l
def txt : List UInt8 → Option (List UInt8 × Nat)
 | []=>none
 | [c]=>if c = 34 then some ([],1) else none
 | c :: d :: r=>if c = 34 then (if d = 34 then (txt r).map (fun x=>(34 :: x.1,x.2 + 2)) else some ([],1)) else (txt (d :: r)).map (fun x=>(c :: x.1,x.2 + 1))
def errsL : List (Int × List UInt8):=[(1,[35,82,69,70,33]),(2,[35,86,65,76,85,69,33]),(3,[35,68,73,86,47,48,33]),(4,[35,78,85,77,33]),(5,[35,67,89,67,76,69,33])]
def errT (l : List UInt8) : Option (Int × List UInt8):=errsL.find? (fun x=>x.2.isPrefixOf l)
def sgsL : List (List UInt8):=[[60,62],[60,61],[62,61],[60],[62],[61],[43],[45],[42],[47],[38],[40],[41],[44],[58]]
def sgT (l : List UInt8) : Option (List UInt8):=sgsL.find? (fun p=>p.isPrefixOf l)
abbrev Wd:=Int × List UInt8 × Int × Int × Nat
def nuRL (l : List UInt8) : Except Int Wd:=if rdK (l.take (numE l)) = 0 then .error 4 else if rdK (l.take (numE l)) = 2 then .error 2 else .ok (0,[],rdV (l.take (numE l)),0,numE l)
def txtR (l : List UInt8) : Except Int Wd:=match txt l.tail with
 | none=>.error 4
 | some x=>.ok (1,x.1,0,0,x.2 + 1)
def wdR (l : List UInt8) : Except Int Wd:=.ok (2,l.take (run inW l),0,0,run inW l)
def errR (l : List UInt8) : Except Int Wd:=match errT l with
 | none=>.error 4
 | some x=>.ok (4,[],0,x.1,x.2.length)
def sgR (l : List UInt8) : Except Int Wd:=match sgT l with
 | none=>.error 4
 | some p=>.ok (3,p,0,0,p.length)
def nxt (l : List UInt8) : Except Int Wd :=
 match l.head? with
 | none=>.error 4
 | some c=>if dgB c then nuRL l else if c = 34 then txtR l else if letB c then wdR l else if c = 35 then errR l else sgR l
abbrev Tk:=Int × Int × List UInt8 × Int × Int
def tkOf (x : Wd) (p : Nat) : Tk:=(x.1,(p : Int),x.2.1,x.2.2.1,x.2.2.2.1)
def endT (p : Nat) : Tk:=(5,(p : Int),[],0,0)
def wds : Nat → Nat → List UInt8 → Except (Nat × Int) (List Tk)
 | 0,_,_=>.ok []
 | _ + 1,p,[]=>.ok [endT p]
 | f + 1,p,c :: r=>if c = 32 then wds f (p + 1) r else
   match nxt (c :: r) with
   | .error e=>.error (p,e)
   | .ok x=>(wds f (p + x.2.2.2.2) ((c :: r).drop x.2.2.2.2)).map (fun ts=>tkOf x p :: ts)
def W (p : Nat) (l : List UInt8) : Except (Nat × Int) (List Tk):=wds (l.length + 1) p l
def lexR (l : List UInt8) : List Tk × Int × Int :=
 if 300 < l.length then ([],0,2) else match W 0 l with
   | .ok ts=>(ts,0,0)
   | .error x=>([],(x.1 : Int),x.2)
theorem runL_le (p : UInt8 → Bool) (l : List UInt8) : run p l ≤ l.length:=by
 unfold run;exact (List.takeWhile_prefix p).length_le
theorem run_cons (p : UInt8 → Bool) (c : UInt8) (l : List UInt8) : run p (c :: l) = if p c then run p l + 1 else 0:=by
 unfold run;rw [List.takeWhile_cons];split <;> simp
theorem run_nil (p : UInt8 → Bool) : run p [] = 0:=rfl
theorem numE_le (l : List UInt8) : numE l ≤ l.length:=by
 unfold numE
 split
 · rename_i h
   have h1:=runL_le dgB (l.drop (run dgB l + 1))
   have h2 : run dgB l < l.length:=(List.getElem?_eq_some_iff.mp h.1).1
   simp at h1;omega
 · exact runL_le _ _
theorem numE_ge (l : List UInt8) : run dgB l ≤ numE l:=by unfold numE;split <;> omega
theorem txt_le : ∀ (l : List UInt8) (x : List UInt8 × Nat),txt l = some x → 1 ≤ x.2 ∧ x.2 ≤ l.length
 | [],x,h=>by simp [txt] at h
 | [c],x,h=>by
   unfold txt at h
   split at h
   · cases h;simp
   · cases h
 | c :: d :: r,x,h=>by
   unfold txt at h
   split at h
   · split at h
     · rw [Option.map_eq_some_iff] at h
       obtain ⟨y,hy,rfl⟩:=h
       have:=txt_le r y hy
       simp;omega
     · cases h;simp
   · rw [Option.map_eq_some_iff] at h
     obtain ⟨y,hy,rfl⟩:=h
     have:=txt_le (d :: r) y hy
     simp at this ⊢;omega
theorem errT_le {l : List UInt8} {x : Int × List UInt8} (h : errT l = some x) : 1 ≤ x.2.length ∧ x.2.length ≤ l.length:=by
 unfold errT at h
 have h1:=List.find?_some h
 have h2:=List.mem_of_find?_eq_some h
 refine ⟨?_,?_⟩
 · simp [errsL] at h2;rcases h2 with rfl | rfl | rfl | rfl | rfl <;> simp
 · exact (List.isPrefixOf_iff_prefix.mp h1).length_le
theorem sgT_le {l p : List UInt8} (h : sgT l = some p) : 1 ≤ p.length ∧ p.length ≤ l.length ∧ l.take p.length = p:=by
 unfold sgT at h
 have h1:=List.find?_some h
 have h2:=List.mem_of_find?_eq_some h
 refine ⟨?_,(List.isPrefixOf_iff_prefix.mp h1).length_le,?_⟩
 · simp [sgsL] at h2;rcases h2 with rfl | rfl | rfl | rfl | rfl | rfl | rfl | rfl | rfl | rfl | rfl | rfl | rfl | rfl | rfl <;> simp
 · obtain ⟨t,ht⟩:=List.isPrefixOf_iff_prefix.mp h1
   rw [← ht,List.take_left]
theorem nxt_cons (c : UInt8) (r : List UInt8) : nxt (c :: r) = if dgB c then nuRL (c :: r) else if c = 34 then txtR (c :: r) else if letB c then wdR (c :: r) else if c = 35 then errR (c :: r) else sgR (c :: r):=rfl
theorem nxt_pos {l : List UInt8} {x : Wd} (h : nxt l = .ok x) : 1 ≤ x.2.2.2.2 ∧ x.2.2.2.2 ≤ l.length:=by
 cases l with
 | nil=>cases h
 | cons c r =>
   rw [nxt_cons] at h
   split at h
   · rename_i hd
     unfold nuRL at h
     split at h
     · cases h
     · split at h
       · cases h
       · cases h
         have h1:=numE_le (c :: r)
         have h2:=numE_ge (c :: r)
         rw [run_cons,if_pos hd] at h2
         exact ⟨by simp only [];omega,h1⟩
   · split at h
     · unfold txtR at h
       split at h
       · cases h
       · rename_i x hx
         cases h
         have:=txt_le _ _ hx
         simp at this ⊢;omega
     · split at h
       · rename_i hl
         unfold wdR at h
         cases h
         have:=runL_le inW (c :: r)
         refine ⟨?_,this⟩
         simp only [run_cons]
         rw [if_pos (by unfold inW;rw [hl];rfl)];omega
       · split at h
         · unfold errR at h
           split at h
           · cases h
           · rename_i x hx
             cases h
             exact errT_le hx
         · unfold sgR at h
           split at h
           · cases h
           · rename_i x hx
             cases h
             exact ⟨(sgT_le hx).1,(sgT_le hx).2.1⟩
theorem wds_more (f : Nat) : ∀ (g p : Nat) (l : List UInt8),l.length < f → l.length < g → wds f p l = wds g p l:=by
 induction f with
 | zero=>intro g p l h;omega
 | succ f ih =>
   intro g p l hf hg
   cases g with
   | zero=>omega
   | succ g =>
     cases l with
     | nil=>rfl
     | cons c r =>
       unfold wds
       simp at hf hg
       split
       · exact ih g _ _ J2 J2
       · split
         · rfl
         · rename_i x hx
           have h1:=nxt_pos hx
           simp at h1
           rw [ih g]
           · simp;omega
           · simp;omega
theorem W_nil (p : Nat) : W p [] = .ok [endT p]:=rfl
theorem W_blank (p : Nat) (r : List UInt8) : W p (32 :: r) = W (p + 1) r:=rfl
theorem W_cons (p : Nat) (c : UInt8) (r : List UInt8) (h : ¬ c = 32) : W p (c :: r) = match nxt (c :: r) with
   | .error e=>.error (p,e)
   | .ok x=>(W (p + x.2.2.2.2) ((c :: r).drop x.2.2.2.2)).map (fun ts=>tkOf x p :: ts):=by
 unfold W
 conv=>lhs;unfold wds
 rw [if_neg h]
 cases hx : nxt (c :: r) with
 | error e=>rfl
 | ok x =>
   have h1:=nxt_pos hx
   simp at h1
   simp only []
   rw [wds_more _ (((c :: r).drop x.2.2.2.2).length + 1)]
   · simp;omega
   · simp
end Go.Proofs.YtcfgbiaahangmaaGreatDoor
