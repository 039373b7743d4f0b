import Derived.Test.YtcfgbiaahangmaaGreatDoorB9
namespace Go.Proofs.YtcfgbiaahangmaaGreatDoor
open Go.RowKit
abbrev Bov:=Int → Int → V
def bz : Bov:=fun _ _=>.blank
def bput (M : Bov) (r c : Int) (v : V) : Bov:=fun r' c'=>if r' = r ∧ c' = c then v else M r' c'
def bset (M : Bov) (r c : Int) (v : V) : Bov:=if inB r c then bput M r c v else M
structure BdOk (M : Bov) : Prop where
 v : ∀ r c,(M r c).ok
 i : ∀ r c,inB r c = false → M r c = .blank
theorem bz_ok : BdOk bz:=⟨fun _ _=>trivial,fun _ _ _=>rfl⟩
theorem bset_ok {M : Bov} (h : BdOk M) (r c : Int) (v : V) (hv : v.ok) : BdOk (bset M r c v):=by
 unfold bset
 split
 · rename_i hi
   refine ⟨fun r' c'=>?_,fun r' c' h'=>?_⟩
   · unfold bput;split
     · exact hv
     · exact h.v _ _
   · unfold bput;split
     · rename_i he
       rw [he.1,he.2] at h'
       rw [hi] at h'
       cases h'
     · exact h.i _ _ h'
 · exact h
def rowA (M : Bov) (r c : Int) : Nat → List Rw
 | 0=>[]
 | n + 1=>(M r c).rw :: rowA M r (c + 1) n
def areA (M : Bov) (r c : Int) (cols : Nat) : Nat → List Rw
 | 0=>[]
 | n + 1=>rowA M r c cols ++ areA M (r + 1) c cols n
def argA (M : Bov) (p q u v : Int) : Bg:=⟨⟨true,areA M p q (v - q + 1).toNat (u - p + 1).toNat⟩,u - p + 1,v - q + 1⟩
def argR (M : Bov) (r q : Rf) : Bg:=argA M (mnI r.1 q.1) (mnI r.2.1 q.2.1) (mxI r.1 q.1) (mxI r.2.1 q.2.1)
theorem rowA_len (M : Bov) (r : Int) (n : Nat) : ∀ c,(rowA M r c n).length = n:=by
 induction n with
 | zero=>intro c;rfl
 | succ n ih=>intro c;show (rowA M r (c + 1) n).length + 1 = n + 1;rw [ih]
theorem areA_len (M : Bov) (c : Int) (cols n : Nat) : ∀ r,(areA M r c cols n).length = n * cols:=by
 induction n with
 | zero=>intro r;simp [areA]
 | succ n ih=>intro r;show (rowA M r c cols ++ areA M (r + 1) c cols n).length = _;rw [List.length_append,rowA_len,ih,Nat.succ_mul];omega
theorem rowA_snoc (M : Bov) (r : Int) (n : Nat) : ∀ c,rowA M r c (n + 1) = rowA M r c n ++ [(M r (c + n)).rw]:=by
 induction n with
 | zero=>intro c;simp [rowA]
 | succ n ih =>
   intro c
   show (M r c).rw :: rowA M r (c + 1) (n + 1) = ((M r c).rw :: rowA M r (c + 1) n) ++ _
   rw [ih]
   have : c + 1 + (n : Int) = c + ((n + 1 : Nat) : Int):=J2
   rw [this];rfl
theorem areA_snoc (M : Bov) (c : Int) (cols n : Nat) : ∀ r,areA M r c cols (n + 1) = areA M r c cols n ++ rowA M (r + n) c cols:=by
 induction n with
 | zero=>intro r;simp [areA]
 | succ n ih =>
   intro r
   show rowA M r c cols ++ areA M (r + 1) c cols (n + 1) = (rowA M r c cols ++ areA M (r + 1) c cols n) ++ _
   rw [ih,List.append_assoc]
   have : r + 1 + (n : Int) = r + ((n + 1 : Nat) : Int):=J2
   rw [this]
theorem rowA_mem (M : Bov) (r : Int) (n : Nat) : ∀ c x,x ∈ rowA M r c n → ∃ c',x = (M r c').rw:=by
 induction n with
 | zero=>intro c x h;cases h
 | succ n ih =>
   intro c x h
   rcases List.mem_cons.1 h with h | h
   · exact ⟨c,h⟩
   · exact ih _ _ h
theorem areA_mem (M : Bov) (c : Int) (cols n : Nat) : ∀ r x,x ∈ areA M r c cols n → ∃ r' c',x = (M r' c').rw:=by
 induction n with
 | zero=>intro r x h;cases h
 | succ n ih =>
   intro r x h
   rcases List.mem_append.1 h with h | h
   · obtain ⟨c',h⟩:=rowA_mem _ _ _ _ _ h
     exact ⟨r,c',h⟩
   · exact ih _ _ h
def cmB (s : List UInt8) (n : Int) : Bool :=
 if s = [61] then n == 0 else if s = [60,62] then n != 0 else if s = [60] then decide (n < 0) else if s = [60,61] then decide (n ≤ 0) else if s = [62] then decide (n > 0) else decide (n ≥ 0)
def cmpS (s : List UInt8) (a b : V) : V:=if (cmpE a b).k = 4 then cmpE a b else .tf (cmB s (cmpV a b))
def fourB (s : List UInt8) : Bool:=s == [43] || s == [45] || s == [42] || s == [47]
def binV (s : List UInt8) (a b : V) : V:=if fourB s then arith ((s.headD 0).toNat : Int) a b else if s == [38] then join a b else cmpS s a b
def argV (v : V) : Bg:=⟨⟨false,[v.rw]⟩,0,0⟩
def evT : Nat → Bov → T → V
 | 0,_,_=>.blank
 | n + 1,M,t=>if t.k = 0 then mkNum t.n else if t.k = 1 then mkText (bs t.s) else if t.k = 2 then .tf (t.n == 1) else if t.k = 3 then mkErr t.e else if t.k = 4 then M t.r.1 t.r.2.1 else
   if t.k = 6 then (match t.l with | x :: _=>(evT n M x).neg | []=>.blank) else
   if t.k = 7 then (match t.l with | x :: y :: _=>binV t.s (evT n M x) (evT n M y) | _=>.blank) else
   fnV t.s (t.l.map (fun x=>if x.k = 5 then argR M x.r x.q else argV (evT n M x)))
def argX (n : Nat) (M : Bov) (x : T) : Bg:=if x.k = 5 then argR M x.r x.q else argV (evT n M x)
def expV (n : Nat) (M : Bov) (t : T) : V:=if wellT n t then evT n M t else .err 2
structure Kn where
 r : Int
 c : Int
 v : Rw
instance : Inhabited Kn:=⟨⟨0,0,⟨0,0,⟨#[]⟩,0⟩⟩⟩
def isAt (x : Kn) (r c : Int) : Bool:=x.r == r && x.c == c
def aft (x : Kn) (r c : Int) : Bool:=decide (r < x.r) || (x.r == r && decide (c < x.c))
def atI (r c : Int) : List Kn → Nat
 | []=>0
 | x :: l=>if isAt x r c || aft x r c then 0 else atI r c l + 1
def atB (r c : Int) : List Kn → Bool
 | []=>false
 | x :: l=>if isAt x r c then true else if aft x r c then false else atB r c l
def newL (r c : Int) (v : V) : List Kn:=if v.k = 0 then [] else [⟨r,c,v.rw⟩]
def putL (L : List Kn) (r c : Int) (v : V) : List Kn:=if inB r c then L.take (atI r c L) ++ newL r c v ++ (L.drop (atI r c L)).drop (if atB r c L then 1 else 0) else L
def getL (L : List Kn) (r c : Int) : Rw:=if atB r c L then (match L[atI r c L]? with | some x=>x.v | none=>V.blank.rw) else V.blank.rw
def Ltk (x y : Kn) : Prop:=x.r < y.r ∨ x.r = y.r ∧ x.c < y.c
structure LB (L : List Kn) (M : Bov) : Prop where
 s : L.Pairwise Ltk
 m : ∀ x,x ∈ L ↔ (x.v = (M x.r x.c).rw ∧ (M x.r x.c).k ≠ 0)
theorem isAt_iff (x : Kn) (r c : Int) : isAt x r c = true ↔ x.r = r ∧ x.c = c:=by simp [isAt]
theorem isAt_no (x : Kn) (r c : Int) : isAt x r c = false ↔ ¬ (x.r = r ∧ x.c = c):=by rw [← isAt_iff];simp
theorem aft_iff (x : Kn) (r c : Int) : aft x r c = true ↔ (r < x.r ∨ x.r = r ∧ c < x.c):=by simp [aft]
theorem aft_no (x : Kn) (r c : Int) : aft x r c = false ↔ ¬ (r < x.r ∨ x.r = r ∧ c < x.c):=by rw [← aft_iff];simp
theorem atI_le (r c : Int) (L : List Kn) : atI r c L ≤ L.length:=by
 induction L with
 | nil=>exact Nat.le_refl _
 | cons x l ih =>
   rw [atI]
   split
   · exact Nat.zero_le _
   · simp;exact ih
theorem atB_lt {r c : Int} {L : List Kn} (h : atB r c L = true) : atI r c L < L.length:=by
 induction L with
 | nil=>cases h
 | cons x l ih =>
   unfold atB at h
   unfold atI
   cases h1 : isAt x r c
   · rw [h1] at h
     cases h2 : aft x r c
     · rw [h2] at h
       simp at h ⊢
       exact ih h
     · rw [h2] at h;simp at h
   · simp
def putR (r c : Int) (v : V) : List Kn → List Kn
 | []=>newL r c v
 | x :: l=>if isAt x r c then newL r c v ++ l else if aft x r c then newL r c v ++ x :: l else x :: putR r c v l
theorem put_is (r c : Int) (v : V) (L : List Kn) : L.take (atI r c L) ++ newL r c v ++ (L.drop (atI r c L)).drop (if atB r c L then 1 else 0) = putR r c v L:=by
 induction L with
 | nil=>simp [putR,atI]
 | cons x l ih =>
   unfold atI atB putR
   cases h1 : isAt x r c
   · cases h2 : aft x r c
     · simp only [Bool.or_self,Bool.false_eq_true,if_false,List.take_succ_cons,List.drop_succ_cons,List.cons_append]
       rw [ih]
     · simp
   · simp
theorem put_mem {r c : Int} {v : V} {L : List Kn} (hs : L.Pairwise Ltk) (y : Kn) : y ∈ putR r c v L ↔ ((y = ⟨r,c,v.rw⟩ ∧ v.k ≠ 0) ∨ (y ∈ L ∧ isAt y r c = false)):=by
 have hn : ∀ y,y ∈ newL r c v ↔ (y = ⟨r,c,v.rw⟩ ∧ v.k ≠ 0):=by
   intro y;unfold newL;split <;> simp_all
 induction L with
 | nil=>simp [putR,hn]
 | cons x l ih =>
   obtain ⟨h1,h2⟩:=List.pairwise_cons.1 hs
   unfold putR
   cases hx : isAt x r c
   · cases hx2 : aft x r c
     · simp only [Bool.false_eq_true,if_false,List.mem_cons,ih h2]
       constructor
       · rintro (rfl | h | h)
         · exact .inr ⟨.inl rfl,hx⟩
         · exact .inl h
         · exact .inr ⟨.inr h.1,h.2⟩
       · rintro (h | ⟨rfl | h,h'⟩)
         · exact .inr (.inl h)
         · exact .inl rfl
         · exact .inr (.inr ⟨h,h'⟩)
     · rw [aft_iff] at hx2
       simp only [Bool.false_eq_true,if_false,if_true,List.mem_append,hn]
       constructor
       · rintro (h | h)
         · exact .inl h
         · refine .inr ⟨h,?_⟩
           rw [isAt_no]
           rcases List.mem_cons.1 h with rfl | h
           · exact (isAt_no _ _ _).1 hx
           · rintro ⟨e1,e2⟩
             rcases h1 y h with h' | h' <;> omega
       · rintro (h | h)
         · exact .inl h
         · exact .inr h.1
   · rw [isAt_iff] at hx
     simp only [if_true,List.mem_append,hn,List.mem_cons]
     constructor
     · rintro (h | h)
       · exact .inl h
       · refine .inr ⟨.inr h,?_⟩
         rw [isAt_no]
         rintro ⟨e1,e2⟩
         rcases h1 y h with h' | h' <;> omega
     · rintro (h | ⟨rfl | h,h'⟩)
       · exact .inl h
       · rw [isAt_no] at h';exact absurd hx h'
       · exact .inr h
theorem ltk_trans {x y z : Kn} (h : Ltk x y) (g : Ltk y z) : Ltk x z:=by unfold Ltk at *;omega
theorem put_sorted {r c : Int} {v : V} {L : List Kn} (hs : L.Pairwise Ltk) : (putR r c v L).Pairwise Ltk:=by
 have hn : (newL r c v).Pairwise Ltk:=by unfold newL;split <;> simp
 have hm : ∀ y ∈ newL r c v,y.r = r ∧ y.c = c:=by intro y;unfold newL;split <;> simp;rintro rfl;exact ⟨rfl,rfl⟩
 induction L with
 | nil=>exact hn
 | cons x l ih =>
   obtain ⟨h1,h2⟩:=List.pairwise_cons.1 hs
   unfold putR
   cases hx : isAt x r c
   · cases hx2 : aft x r c
     · simp only [Bool.false_eq_true,if_false]
       refine List.pairwise_cons.2 ⟨fun y hy=>?_,ih h2⟩
       rcases (put_mem h2 y).1 hy with ⟨rfl,_⟩ | ⟨hy,_⟩
       · rw [isAt_no] at hx
         rw [aft_no] at hx2
         unfold Ltk
         simp
         omega
       · exact h1 y hy
     · rw [aft_iff] at hx2
       simp only [Bool.false_eq_true,if_false,if_true]
       refine List.pairwise_append.2 ⟨hn,hs,fun a ha b hb=>?_⟩
       obtain ⟨a1,a2⟩:=hm a ha
       have hax : Ltk a x:=by unfold Ltk;omega
       rcases List.mem_cons.1 hb with rfl | hb
       · exact hax
       · exact ltk_trans hax (h1 b hb)
   · rw [isAt_iff] at hx
     simp only [if_true]
     refine List.pairwise_append.2 ⟨hn,h2,fun a ha b hb=>?_⟩
     obtain ⟨a1,a2⟩:=hm a ha
     have:=h1 b hb
     unfold Ltk at *
     omega
theorem kn_eq {x y : Kn} (h1 : x.r = y.r) (h2 : x.c = y.c) (h3 : x.v = y.v) : x = y:=by
 cases x;cases y;simp_all
theorem lb_z : LB [] bz:=⟨List.Pairwise.nil,fun x=>by simp [bz,V.k]⟩
theorem lb_put {L : List Kn} {M : Bov} (h : LB L M) (r c : Int) (v : V) : LB (putL L r c v) (bset M r c v):=by
 unfold putL bset
 split
 · rw [put_is]
   refine ⟨put_sorted h.s,fun y=>?_⟩
   rw [put_mem h.s,h.m]
   unfold bput
   by_cases e : y.r = r ∧ y.c = c
   · rw [if_pos e,(isAt_iff y r c).2 e]
     simp
     intro hv
     constructor
     · rintro rfl;rfl
     · intro hy;exact kn_eq e.1 e.2 hy
   · rw [if_neg e,(isAt_no y r c).2 e]
     simp
     rintro rfl
     exact absurd ⟨rfl,rfl⟩ e
 · exact h
theorem k_blank {v : V} (h : v.k = 0) : v = .blank:=by cases v <;> simp_all [V.k]
theorem get_or (r c : Int) {L : List Kn} (hs : L.Pairwise Ltk) : (∃ x ∈ L,isAt x r c = true ∧ getL L r c = x.v) ∨ ((∀ x ∈ L,isAt x r c = false) ∧ getL L r c = V.blank.rw):=by
 induction L with
 | nil=>exact .inr ⟨fun x hx=>(by cases hx),rfl⟩
 | cons x l ih =>
   obtain ⟨h1,h2⟩:=List.pairwise_cons.1 hs
   cases hx : isAt x r c
   · cases hx2 : aft x r c
     · have ei : atI r c (x :: l) = atI r c l + 1:=by rw [atI,hx,hx2];rfl
       have eb : atB r c (x :: l) = atB r c l:=by rw [atB,hx,hx2];rfl
       have e : getL (x :: l) r c = getL l r c:=by unfold getL;rw [ei,eb];rfl
       rw [e]
       rcases ih h2 with ⟨y,hy,h3,h4⟩ | ⟨h3,h4⟩
       · exact .inl ⟨y,List.mem_cons_of_mem _ hy,h3,h4⟩
       · refine .inr ⟨fun y hy=>?_,h4⟩
         rcases List.mem_cons.1 hy with rfl | hy
         · exact hx
         · exact h3 y hy
     · have e : getL (x :: l) r c = V.blank.rw:=by unfold getL atB;rw [hx,hx2];simp
       refine .inr ⟨fun y hy=>?_,e⟩
       rcases List.mem_cons.1 hy with rfl | hy
       · exact hx
       · rw [aft_iff] at hx2
         rw [isAt_no]
         rintro ⟨e1,e2⟩
         rcases h1 y hy with h' | h' <;> omega
   · refine .inl ⟨x,by simp,hx,?_⟩
     unfold getL atI atB
     rw [hx]
     simp
theorem lb_get {L : List Kn} {M : Bov} (h : LB L M) (r c : Int) : getL L r c = (M r c).rw:=by
 rcases get_or r c h.s with ⟨x,hx,h1,h2⟩ | ⟨h1,h2⟩
 · rw [h2,((h.m x).1 hx).1]
   obtain ⟨rfl,rfl⟩:=(isAt_iff _ _ _).1 h1
   rfl
 · rw [h2]
   by_cases hk : (M r c).k = 0
   · rw [k_blank hk]
   · have:=h1 ⟨r,c,(M r c).rw⟩ ((h.m _).2 ⟨rfl,hk⟩)
     rw [isAt_no] at this
     exact absurd ⟨rfl,rfl⟩ this
theorem lb_one : ∀ {A L : List Kn},A.Pairwise Ltk → L.Pairwise Ltk → (∀ x,x ∈ A ↔ x ∈ L) → A = L
 | [],[],_,_,_=>rfl
 | [],y :: l,_,_,h=>by have:=(h y).2 J58;cases this
 | x :: a,[],_,_,h=>by have:=(h x).1 J58;cases this
 | x :: a,y :: l,ha,hl,h=>by
   obtain ⟨a1,a2⟩:=List.pairwise_cons.1 ha
   obtain ⟨l1,l2⟩:=List.pairwise_cons.1 hl
   have irr : ∀ z : Kn,¬ Ltk z z:=fun z h=>by unfold Ltk at h;omega
   have asy : ∀ z u : Kn,Ltk z u → Ltk u z → False:=fun z u h g=>irr _ (ltk_trans h g)
   have e : x = y:=by
     rcases List.mem_cons.1 ((h x).1 J58) with e | hx
     · exact e
     · rcases List.mem_cons.1 ((h y).2 J58) with e | hy
       · exact e.symm
       · exact (asy _ _ (a1 y hy) (l1 x hx)).elim
   subst e
   rw [lb_one a2 l2 (fun z=>?_)]
   constructor
   · intro hz
     rcases List.mem_cons.1 ((h z).1 (by simp [hz])) with rfl | hz'
     · exact (irr _ (a1 _ hz)).elim
     · exact hz'
   · intro hz
     rcases List.mem_cons.1 ((h z).2 (by simp [hz])) with rfl | hz'
     · exact (irr _ (l1 _ hz)).elim
     · exact hz'
theorem lb_same {A L : List Kn} {M : Bov} (h : LB A M) (g : LB L M) : A = L:=lb_one h.s g.s (fun x=>by rw [h.m,g.m])
theorem putR_len (r c : Int) (v : V) (L : List Kn) : (putR r c v L).length ≤ L.length + 1:=by
 have hn : (newL r c v).length ≤ 1:=by unfold newL;split <;> simp
 induction L with
 | nil=>exact hn
 | cons x l ih =>
   unfold putR
   split
   · simp;omega
   · split
     · simp;omega
     · simp;omega
theorem putL_len (r c : Int) (v : V) (L : List Kn) : (putL L r c v).length ≤ L.length + 1:=by
 unfold putL
 split
 · rw [put_is];exact putR_len r c v L
 · omega
end Go.Proofs.YtcfgbiaahangmaaGreatDoor
