import Derived.Lib.LastIndexByte
import Derived.Lib.IndexLaws
import Derived.IntWalk
import Derived.Test.YtmfapopclbnlpaaGreatDoorHx7
import Derived.Test.YtmfapopclbnlpaaGreatDoorHx9
import Derived.Test.YtmfapopclbnlpaaGreatDoorHx11
set_option linter.unusedVariables false
set_option linter.unusedSimpArgs false
namespace Go.Proofs.YtmfapopclbnlpaaGreatDoor
open Go.RowKit
def di(l:List UInt8):Nat:=(Lib.lastIndexByte ⟨l.toArray⟩ 46+1).toNat
theorem xJ(l:List UInt8)(j:Nat)(h:j<l.length):((((⟨l.toArray⟩:ByteArray).data[j]!).toNat:Int))=ar l j:=by
 have h2:j<l.toArray.size:=by simpa using h
 show((l.toArray[j]!).toNat:Int)=_;rw [getElem!_pos l.toArray j h2];unfold ar;simp [List.getD,h]
theorem sA(l:List UInt8):di l<=l.length/\(di l=0\/ar l (di l-1)=46)/\(∀j,di l<=j->j<l.length->ar l j≠46)/\Lib.lastIndexByte ⟨l.toArray⟩ 46=(di l:Int)-1:=by
 have hs:(⟨l.toArray⟩:ByteArray).size=l.length:=gf l;rcases Lib.lastIdx_spec ⟨l.toArray⟩ 46 l.length with⟨h1,h2⟩|⟨i,h1,h2,h3,h4⟩
 ·have e:Lib.lastIndexByte ⟨l.toArray⟩ 46=-1:=by unfold Lib.lastIndexByte;rw [hs];exact h1
  have ek:di l=0:=by unfold di;rw [e];rfl
  refine ⟨by omega,.inl ek,fun j _ hj=>?_,by rw [e,ek];rfl⟩;rw [<-xJ l j hj];exact h2 j hj
 ·have e:Lib.lastIndexByte ⟨l.toArray⟩ 46=i:=by unfold Lib.lastIndexByte;rw [hs];exact h2
  have ek:di l=i+1:=by unfold di;rw [e];omega
  refine ⟨by omega,.inr ?_,fun j hj hj2=>?_,by rw [e,ek];omega⟩
  ·rw [ek,show i+1-1=i from rfl,<-xJ l i h1];exact h3
  ·rw [<-xJ l j hj2];exact h4 j (by omega) hj2
theorem dO {c:Int}{b:UInt8}(hb:(b.toNat:Int)=c)(t:List UInt8):splitB c (b::t)=[]::splitB c t:=by
 conv=>lhs;unfold splitB
 rw [if_pos hb]
theorem eC {c:Int}{b:UInt8}(hb:(b.toNat:Int)≠c){t:List UInt8}{p:List UInt8}{ps:List (List UInt8)}(h:splitB c t=p::ps):splitB c (b::t)=(b::p)::ps:=by
 conv=>lhs;unfold splitB
 rw [if_neg hb,h]
theorem ke(c:Int)(b:UInt8)(hb:(b.toNat:Int)=c)(m:List UInt8):∀(l:List UInt8),splitB c (l++b::m)=splitB c l++splitB c m:=by
 intro l
 induction l with
 |nil=>exact dO hb m
 |cons x t ih=>
  show splitB c (x::(t++b::m))=_;by_cases hx:(x.toNat:Int)=c
  ·rw [dO hx,dO hx,ih];rfl
  ·cases h:splitB c t with
   |nil=>exact absurd h (cf c t)
   |cons p ps=>
    rw [eC hx h];exact eC hx (by rw [ih,h];rfl)
theorem nQ(l:List UInt8):(splitB 46 l).getLastD []=l.drop (di l):=by
 obtain ⟨h1,h2,h3,-⟩:=sA l;have hend:splitB 46 (l.drop (di l))=[l.drop (di l)]:=j6 46 _ (fun q hq=>by
  have hq2:di l+q<l.length:=by simp at hq;omega
  have:=h3 (di l+q) (by omega) hq2
  rwa [<-kQ l (di l) q]at this)
 rcases h2 with h2|h2
 ·rw [h2,List.drop_zero]at hend⊢
  rw [hend];rfl
 ·by_cases h0:di l=0
  ·rw [h0,List.drop_zero]at hend⊢
   rw [hend];rfl
  ·have hk:di l-1<l.length:=by omega
   have e:l=l.take (di l-1)++(l[di l-1]'hk)::l.drop (di l):=by
    have h4:l.drop (di l-1)=(l[di l-1]'hk)::l.drop (di l-1+1):=List.drop_eq_getElem_cons hk;rw [show di l-1+1=di l by omega]at h4;rw [<-h4,List.take_append_drop]
   have hb:((l[di l-1]'hk).toNat:Int)=46:=by
    rw [<-h2];unfold ar;simp [List.getD,hk]
   generalize hd:l.drop (di l)=d at *;generalize l[di l-1]'hk=b at *;generalize l.take (di l-1)=p at *;rw [e,ke 46 b hb d p,hend];simp
def kv(t:List UInt8):Bool:=if eu t=true then aW 16 (t.drop 2)else decide (0<t.length)&&aW 10 t
def Ab(l:List UInt8)(c:UInt8):Bool:=decide (0<=Lib.indexByte l c)
def eg(l:List UInt8)(c:UInt8):List UInt8:=if 0<=Lib.indexByte l c then l.take (Lib.indexByte l c).toNat else l
def eO(l:List UInt8)(c:UInt8):List UInt8:=if 0<=Lib.indexByte l c then l.drop ((Lib.indexByte l c).toNat+1)else []
theorem xK(l:List UInt8)(c:UInt8):-1<=Lib.indexByte l c/\Lib.indexByte l c<l.length:=by
 refine ⟨Lib.indexByte_ge l c,?_⟩;rcases Int.lt_or_le (Lib.indexByte l c) 0 with h|h
 ·omega
 ·obtain ⟨o,ho⟩:=Int.eq_ofNat_of_zero_le h
  have h1:=(Lib.indexByte_some ho).1;have:=(List.getElem?_eq_some_iff.1 h1).1;omega
theorem C0 {a b a' b':List UInt8}{c c':Bool}(h1:a=a')(h2:b=b')(h3:c=c'):Ending.returned (.tuple #[.string ⟨a.toArray⟩,.string ⟨b.toArray⟩,.bool c])=.returned (.tuple #[.string ⟨a'.toArray⟩,.string ⟨b'.toArray⟩,.bool c']):=by rw [h1,h2,h3]
set_option maxHeartbeats 1000000 in
theorem JS(l:List UInt8)(c:UInt8)(w:World)(hm:l.length<=1000000):
 Calls Tryz.prog 160 #[.string ⟨l.toArray⟩,.string ⟨#[c]⟩] w fun e w'=>e=.returned (.tuple #[.string ⟨(eg l c).toArray⟩,.string ⟨(eO l c).toArray⟩,.bool (Ab l c)])/\∃n,w'=w.drewN n:=by
 obtain ⟨h1,h2⟩:=xK l c;have HI:Hid (∀w,Calls Tryz.prog 168 #[.string ⟨l.toArray⟩,.string ⟨#[c]⟩] w fun e w'=>e=.returned (.int .i64 (Lib.indexByte l c))/\w=w'):=Lib.hid (fun w=>(Tryz.stringslite_Index_one ⟨l.toArray⟩ c w).mono (fun _ _ ⟨p,q⟩=>⟨p,q.symm⟩));by_cases h0:0<=Lib.indexByte l c
 ·have HA:Hid (eg l c=l.take (Lib.indexByte l c).toNat):=Lib.hid (by unfold eg;rw [if_pos h0])
  have HB:Hid (eO l c=l.drop ((Lib.indexByte l c).toNat+1)):=Lib.hid (by unfold eO;rw [if_pos h0]);have HO:Hid (Ab l c=true):=Lib.hid (decide_eq_true h0);obtain ⟨k,hk⟩:=Int.eq_ofNat_of_zero_le h0;rw [hk]at HA HB HI h1 h2;clear h0 hk;have HK:Hid ((k:Int).toNat=k):=Lib.hid (by omega)
  go_enter Tryz.func160,Tryz.ntmps160
  go_wp2_with fail
  refine (HI.out _).mono ?_
  rintro e w' ⟨rfl,rfl⟩
  go_wp2_with fail
  have g1:IntKind.i64.wrap ((k:Int)+1)=(k:Int)+1:=IntWalk.i64_in _ (by omega);have g2:(0:Int)<=(k:Int)+1:=by omega
  have g3:((k:Int)+1).toNat=k+1:=by omega
  have g4:(k:Int)+1<=l.length:=by omega
  have g5:k+1<=l.length:=by omega
  go_quiet (fail)
  go_wp2
  go_ret3
  refine ⟨C0 ?_ ?_ ?_,?_⟩
  ·rw [HA.out,HK.out]
  ·rw [HB.out,HK.out]
  ·rw [HO.out]
  ·first|exact ⟨_,rfl⟩|trivial
 ·have HA:Hid (eg l c=l):=Lib.hid (by unfold eg;rw [if_neg h0])
  have HB:Hid (eO l c=[]):=Lib.hid (by unfold eO;rw [if_neg h0]);have HO:Hid (Ab l c=false):=Lib.hid (decide_eq_false h0);generalize Lib.indexByte l c=k at *
  go_enter Tryz.func160,Tryz.ntmps160
  go_wp2_with fail
  refine (HI.out _).mono ?_
  rintro e w' ⟨rfl,rfl⟩
  go_wp2_with fail
  go_ret3
  refine ⟨C0 HA.out.symm HB.out.symm HO.out.symm,?_⟩
  first|exact ⟨0,rfl⟩|trivial
set_option maxHeartbeats 1000000 in
theorem Fc(l:List UInt8)(c:UInt8)(w:World)(hm:l.length<=1000000):
 Calls Tryz.prog 134 #[.string ⟨l.toArray⟩,.string ⟨#[c]⟩] w fun e w'=>e=.returned (.tuple #[.string ⟨(eg l c).toArray⟩,.string ⟨(eO l c).toArray⟩,.bool (Ab l c)])/\∃n,w'=w.drewN n:=by
 have HC:=Lib.hid (JS l c · hm)
 go_enter Tryz.func134,Tryz.ntmps134
 go_wp2_with fail
 refine (HC.out _).mono ?_
 rintro e w' ⟨rfl,n,rfl⟩
 go_wp2
 go_ret3
 exact ⟨C0 rfl rfl rfl,n,rfl⟩
set_option maxHeartbeats 1000000 in
theorem JT(l:List UInt8)(w:World)(hm:l.length<=1000000):
 Calls Tryz.prog 175 #[.string ⟨l.toArray⟩] w fun e w'=>e=.returned (.bool (kv ((bG l).drop (di (bG l)))))/\w=w':=by
 have htl:(bG l).length<=l.length:=by unfold bG;split<;>simp
 have HT:=Lib.hid (zZ l · hm);obtain ⟨s,hs⟩:∃s,bG l=s:=⟨_,rfl⟩;rw [hs]at HT htl;rw [hs];clear hs;obtain ⟨k1,-,-,k4⟩:=sA s;have HI:Hid (∀w,Calls Tryz.prog 133 #[.string ⟨s.toArray⟩,.int .u8 46] w fun e w'=>e=.returned (.int .i64 ((di s:Int)-1))/\w=w'):=Lib.hid (fun w=>by
  rw [<-k4];exact (Tryz.strings_LastIndexByte ⟨s.toArray⟩ 46 (by rw [gf];omega) w).mono (fun _ _ ⟨p,q⟩=>⟨p,q.symm⟩))
 clear k4;obtain ⟨k,hk⟩:∃k,di s=k:=⟨_,rfl⟩;rw [hk]at HI k1;rw [hk];clear hk;have c1:IntKind.i64.wrap ((k:Int)-1+1)=(k:Int):=by rw [IntWalk.i64_in _ (by omega)];omega
 have c2:(k:Int)-1+1=(k:Int):=by omega
 obtain ⟨t,ht⟩:∃t,s.drop k=t:=⟨_,rfl⟩;have htl2:t.length<=1000000:=by rw [<-ht];simp;omega
 have HD:=Lib.hid ht;rw [ht];clear ht;have HR:=Lib.hid (qk t · htl2);cases hp:eu t with
 |true=>
  have HR2:Hid (j7 t=t.drop 2):=Lib.hid (by unfold j7;rw [if_pos hp]);have HE:Hid (kv t=aW 16 (t.drop 2)):=Lib.hid (by unfold kv;rw [if_pos hp]);rw [hp,HR2.out]at HR;rw [HE.out];have HO:=Lib.hid (jN (t.drop 2) 16 · (by simp;omega) (by decide) (by decide));obtain ⟨d,hd⟩:∃d,t.drop 2=d:=⟨_,rfl⟩;rw [hd]at HO HR;rw [hd];clear hp HR2 HE hd
  go_enter Tryz.func175,Tryz.ntmps175
  go_wp2_with fail
  refine (HT.out _).mono ?_
  rintro e w' ⟨rfl,rfl⟩
  go_wp2_with fail
  refine (HI.out _).mono ?_
  rintro e w' ⟨rfl,rfl⟩
  go_wp2_with fail
  rw [HD.out];refine (HR.out _).mono ?_
  rintro e w' ⟨rfl,rfl⟩
  go_wp2_with fail
  refine (HO.out _).mono ?_
  rintro e w' ⟨rfl,rfl⟩
  go_wp2_with fail
  go_ret
  exact ⟨rfl,by trivial⟩
 |false=>
  have HR2:Hid (j7 t=[]):=Lib.hid (by unfold j7;rw [if_neg (by rw [hp];simp)]);have HE:Hid (kv t=(decide (0<t.length)&&aW 10 t)):=Lib.hid (by unfold kv;rw [if_neg (by rw [hp];simp)]);rw [hp,HR2.out]at HR;rw [HE.out];have HO:=Lib.hid (jN t 10 · htl2 (by decide) (by decide));clear hp HR2 HE;by_cases h0:t=[]
  ·subst h0
   go_enter Tryz.func175,Tryz.ntmps175
   go_wp2_with fail
   refine (HT.out _).mono ?_
   rintro e w' ⟨rfl,rfl⟩
   go_wp2_with fail
   refine (HI.out _).mono ?_
   rintro e w' ⟨rfl,rfl⟩
   go_wp2_with fail
   rw [HD.out];refine (HR.out _).mono ?_
   rintro e w' ⟨rfl,rfl⟩
   go_wp2_with fail
   go_ret
   exact ⟨rfl,by trivial⟩
  ·have hlen:0<t.length:=List.length_pos_iff.2 h0
   have g1:(t==[])=false:=by rw [beq_eq_false_iff_ne];exact h0
   have g2:t.isEmpty=false:=by rw [List.isEmpty_eq_false_iff];exact h0
   rw [decide_eq_true hlen,Bool.true_and];clear h0
   go_enter Tryz.func175,Tryz.ntmps175
   go_wp2_with fail
   refine (HT.out _).mono ?_
   rintro e w' ⟨rfl,rfl⟩
   go_wp2_with fail
   refine (HI.out _).mono ?_
   rintro e w' ⟨rfl,rfl⟩
   go_wp2_with fail
   rw [HD.out];refine (HR.out _).mono ?_
   rintro e w' ⟨rfl,rfl⟩
   go_wp2_with fail
   refine (HO.out _).mono ?_
   rintro e w' ⟨rfl,rfl⟩
   go_wp2_with fail
   go_ret
   exact ⟨rfl,by trivial⟩
theorem GR(l:List UInt8)(c:UInt8):(0<=Lib.indexByte l c)↔c∈l:=by
 constructor
 ·intro h
  obtain ⟨o,ho⟩:=Int.eq_ofNat_of_zero_le h;exact List.mem_of_getElem? (Lib.indexByte_some ho).1
 ·intro h
  have hge:=Lib.indexByte_ge l c;rcases Int.lt_or_le (Lib.indexByte l c) 0 with h2|h2
  ·have:=Lib.indexByte_none (show Lib.indexByte l c=-1 by omega)
   obtain ⟨k,hk⟩:=List.mem_iff_getElem?.1 h;exact absurd hk (this k)
  ·exact h2
theorem Pd {s:List UInt8}{b:Bool}{s':List UInt8}{b':Bool}(h1:s=s')(h2:b=b'):Ending.returned (.tuple #[.string ⟨s.toArray⟩,.bool b])=.returned (.tuple #[.string ⟨s'.toArray⟩,.bool b']):=by rw [h1,h2]
set_option maxHeartbeats 1000000 in
theorem Ac(k:Int)(w:World)(h0:-9223372036854775808<=k)(h1:k<=9223372036854775807):
 Calls Tryz.prog 42 #[.int .i64 k] w fun e w'=>e=.returned (.tuple #[.string ⟨(fY k).toArray⟩,.bool (kT k)])/\w=w':=by
 have HO:=Lib.hid (@sw k);have HF:=Lib.hid (@zO k)
 go_enter Tryz.func42,Tryz.ntmps42
 go_wp2
 all_goals
  go_ret2
  try simp only [beq_iff_eq,beq_eq_false_iff_ne]at *
  refine ⟨Pd ?_ ?_,by trivial⟩
  ·unfold fY
   first
    |(subst_vars;rfl)
    |(repeat rw [if_neg (by omega)])
  ·first|exact (HO.out (by omega)).symm|exact (HF.out (by omega)).symm
set_option maxHeartbeats 1000000 in
theorem xL(has:List UInt8)(r:Int)(w:World)(h0:-2147483648<=r)(h1:r<=2147483647):
 Calls Tryz.prog 43 #[.string ⟨has.toArray⟩,.int .i32 r] w fun e w'=>e=.returned (.bool (zN has r))/\w=w':=by
 by_cases c1:r<0\/1114111<r
 ·have HR:=Lib.hid (E8 (has:=has) c1)
  rcases c1 with c1|c1
  all_goals
   go_enter Tryz.func43,Tryz.ntmps43
   go_wp2_with fail
   go_ret
   exact ⟨cz HR.out.symm,by trivial⟩
 by_cases c2:r<32\/126<r
 ·have HR:=Lib.hid (sx (has:=has) (r:=r) (by omega) (by omega) c2)
  have c3:0<=r:=by omega
  have c4:r<=1114111:=by omega
  rcases c2 with c2|c2
  all_goals
   go_enter Tryz.func43,Tryz.ntmps43
   go_wp2_with fail
   go_ret
   exact ⟨cz HR.out.symm,by trivial⟩
 ·have c3:32<=r:=by omega
  have c4:r<=126:=by omega
  have HR:=Lib.hid (E9 (has:=has) c3 c4);have HM:=Lib.hid (GR has (gz r));clear c1 c2
  go_enter Tryz.func43,Tryz.ntmps43
  go_wp2_with (go_at_call 63;refine (Tryz.strings_IndexByte ⟨has.toArray⟩ r _).mono ?_;rintro e w' ⟨rfl,rfl⟩)
  all_goals
   go_ret
   refine ⟨cz ?_,by trivial⟩;rw [HR.out,Bool.eq_iff_iff];simp only [decide_eq_true_eq];exact HM.out
theorem ML(l:List UInt8)(r:Int)(h0:0<=r)(h1:r<=255):(gz r∈l)↔∃i,i<l.length/\ar l i=r:=by
 constructor
 ·intro h
  obtain ⟨i,hi,he⟩:=List.mem_iff_getElem.1 h;refine ⟨i,hi,?_⟩;unfold ar;rw [List.getD_eq_getElem?_getD,List.getElem?_eq_getElem hi];show((l[i]).toNat:Int)=r;rw [he,dR h0 h1]
 ·rintro ⟨i,hi,he⟩
  have:gz r=l[i]:=by
   rw [<-he,E7,List.getD_eq_getElem?_getD,List.getElem?_eq_getElem hi];rfl
  rw [this];exact List.getElem_mem _
set_option maxHeartbeats 1000000 in
theorem dH(r:Int)(l:List UInt8)(w:World)(h0:0<=r)(h1:r<=255)(hm:l.length<=1000000):
 Calls Tryz.prog 98 #[.int .i32 r,.string ⟨l.toArray⟩] w fun e w'=>e=.returned (.bool (decide (gz r∈l)))/\w=w':=by
 have HM:=Lib.hid (ML l r h0 h1)
 go_enter Tryz.func98,Tryz.ntmps98
 go_wp2
 go_loop [5] (fun ti=>∃k:Nat,k<=l.length/\ti=.int .i64 k/\Hid (∀i,i<k->¬ar l i=r)) (fun ti=>l.length-(intOf ti).toNat)
 case atStart=>exact ⟨0,by omega,rfl,Lib.hid (fun i h=>by omega)⟩
 case round=>
  obtain ⟨k,hk,rfl,HN⟩:=hrel;have b0:=cB l k;have b1:=cG l k;by_cases hlt:k<l.length
  ·by_cases he:ar l k=r
   ·have h2:(ar l k==r)=true:=by rw [beq_iff_eq];exact he
    have HF:Hid (decide (gz r∈l)=true):=Lib.hid (decide_eq_true (HM.out.2 ⟨k,hlt,he⟩));clear he
    go_wp2
    go_ret
    exact ⟨cz HF.out.symm,by trivial⟩
   ·have h2:(ar l k==r)=false:=by rw [beq_eq_false_iff_ne];exact he
    have HE:=Lib.hid he;clear he
    go_wp2
    go_round
    case rel=>exact ⟨k+1,by omega,by go_num,Lib.hid (fun i h=>by
     by_cases hi:i=k
     ·subst hi;exact HE.out
     ·exact HN.out i (by omega))⟩
    case measure=>simp [intOf];omega
  ·obtain rfl:k=l.length:=by omega
   have HF:Hid (decide (gz r∈l)=false):=Lib.hid (decide_eq_false (fun h=>by obtain ⟨i,hi,he⟩:=HM.out.1 h;exact HN.out i hi he))
   go_wp2
   go_ret
   exact ⟨cz HF.out.symm,by trivial⟩
theorem JU(k r:Int)(h:k<0\/6<k\/r<0\/1114111<r):pb k r=false:=by
 unfold pb;by_cases h1:0<=k/\k<=6
 ·rw [E8 (by omega)];simp
 ·rw [zO h1];rfl
theorem vP(k r:Int)(h1:0<=k/\k<=6)(h2:0<=r)(h3:r<=1114111)(h:r<32\/126<r):pb k r=true:=by
 unfold pb;rw [sw h1,sx h2 h3 h];rfl
theorem JV(k r:Int)(h1:0<=k/\k<=6)(h2:32<=r)(h3:r<=126):pb k r=decide (gz r∈fY k):=by
 unfold pb;rw [sw h1,E9 h2 h3];rfl
set_option maxHeartbeats 4000000 in
theorem Fe(k r:Int)(w:World)(h0:-9223372036854775808<=k)(h1:k<=9223372036854775807)(h2:-2147483648<=r)(h3:r<=2147483647):
 Calls Tryz.prog 54 #[.int .i64 k,.int .i32 r] w fun e w'=>e=.returned (.bool (pb k r))/\w=w':=by
 by_cases c:k<0\/6<k\/r<0\/1114111<r
 ·have HF:=Lib.hid (JU k r c)
  by_cases c1:k<0
  ·go_enter Tryz.func54,Tryz.ntmps54
   go_wp2_with fail
   go_ret
   exact ⟨cz HF.out.symm,by trivial⟩
  by_cases c2:6<k
  ·go_enter Tryz.func54,Tryz.ntmps54
   go_wp2_with fail
   go_ret
   exact ⟨cz HF.out.symm,by trivial⟩
  by_cases c3:r<0
  ·go_enter Tryz.func54,Tryz.ntmps54
   go_wp2_with fail
   go_ret
   exact ⟨cz HF.out.symm,by trivial⟩
  ·have c4:1114111<r:=by omega
   go_enter Tryz.func54,Tryz.ntmps54
   go_wp2_with fail
   go_ret
   exact ⟨cz HF.out.symm,by trivial⟩
 have k0:0<=k:=by omega
 have k6:k<=6:=by omega
 have r0:0<=r:=by omega
 have r1:r<=1114111:=by omega
 clear c;by_cases d:r<32\/126<r
 ·have HF:=Lib.hid (vP k r ⟨k0,k6⟩ r0 r1 d)
  rcases d with d|d
  all_goals
   go_enter Tryz.func54,Tryz.ntmps54
   go_wp2_with fail
   go_ret
   exact ⟨cz HF.out.symm,by trivial⟩
 have d0:32<=r:=by omega
 have d1:r<=126:=by omega
 have d2:r<=255:=by omega
 have HF:=Lib.hid (JV k r ⟨k0,k6⟩ d0 d1);clear d;obtain rfl|rfl|rfl|rfl|rfl|rfl|rfl:k=0\/k=1\/k=2\/k=3\/k=4\/k=5\/k=6:=by omega
 ·go_enter Tryz.func54,Tryz.ntmps54
  go_wp2_with fail
  go_ret
  exact ⟨cz (HF.out.trans (by simp [fY])).symm,by trivial⟩
 ·go_enter Tryz.func54,Tryz.ntmps54
  go_wp2_with (go_at_call 98;refine (dH r Oi _ r0 d2 (by decide)).mono ?_;rintro e w' ⟨rfl,rfl⟩)
  go_ret
  exact ⟨cz HF.out.symm,by trivial⟩
 ·go_enter Tryz.func54,Tryz.ntmps54
  go_wp2_with (go_at_call 98;refine (dH r JL _ r0 d2 (by decide)).mono ?_;rintro e w' ⟨rfl,rfl⟩)
  go_ret
  exact ⟨cz HF.out.symm,by trivial⟩
 ·go_enter Tryz.func54,Tryz.ntmps54
  go_wp2_with (go_at_call 98;refine (dH r mSpec _ r0 d2 (by decide)).mono ?_;rintro e w' ⟨rfl,rfl⟩)
  go_ret
  exact ⟨cz HF.out.symm,by trivial⟩
 ·have hl1:([32,34,35,60,62,63,94,96,123,125]:List UInt8).length<=1000000:=by decide
  have hl2:([47,58,59,61,64,91,92,93,124]:List UInt8).length<=1000000:=by decide
  have hl3:([36,37,38,43,44]:List UInt8).length<=1000000:=by decide
  obtain ⟨m1,hm1⟩:∃b,decide (gz r∈([32,34,35,60,62,63,94,96,123,125]:List UInt8))=b:=⟨_,rfl⟩;obtain ⟨m2,hm2⟩:∃b,decide (gz r∈([47,58,59,61,64,91,92,93,124]:List UInt8))=b:=⟨_,rfl⟩;obtain ⟨m3,hm3⟩:∃b,decide (gz r∈([36,37,38,43,44]:List UInt8))=b:=⟨_,rfl⟩;have HG:Hid (decide (gz r∈fY 4)=(m1)):=Lib.hid (by
   rw [<-hm1]
   try rw [<-hm2]
   try rw [<-hm3]
   rw [Bool.eq_iff_iff];simp only [Bool.or_eq_true,decide_eq_true_eq];unfold fY;simp only [show ¬((4:Int)=1)from by decide,show ¬((4:Int)=2)from by decide,show ¬((4:Int)=3)from by decide,if_false];simp only [if_true,List.mem_append,show ¬((5:Int)=4)from by decide,show ¬((6:Int)=4)from by decide,show ¬((6:Int)=5)from by decide,if_false];exact Iff.rfl)
  have M1:=Lib.hid hm1;have M2:=Lib.hid hm2;have M3:=Lib.hid hm3;clear hm1 hm2 hm3;cases m1<;>cases m2<;>cases m3
  all_goals
   go_enter Tryz.func54,Tryz.ntmps54
   go_wp2_with (first
    |(go_at_call 98;(with_reducible refine (dH r [32,34,35,60,62,63,94,96,123,125] _ r0 d2 hl1).mono ?_);rintro e w' ⟨rfl,rfl⟩;rw [M1.out])
    |(go_at_call 98;(with_reducible refine (dH r [47,58,59,61,64,91,92,93,124] _ r0 d2 hl2).mono ?_);rintro e w' ⟨rfl,rfl⟩;rw [M2.out])
    |(go_at_call 98;(with_reducible refine (dH r [36,37,38,43,44] _ r0 d2 hl3).mono ?_);rintro e w' ⟨rfl,rfl⟩;rw [M3.out]))
   all_goals (go_ret;exact ⟨cz (HF.out.trans HG.out).symm,by trivial⟩)
 ·have hl1:([32,34,35,60,62,63,94,96,123,125]:List UInt8).length<=1000000:=by decide
  have hl2:([47,58,59,61,64,91,92,93,124]:List UInt8).length<=1000000:=by decide
  have hl3:([36,37,38,43,44]:List UInt8).length<=1000000:=by decide
  obtain ⟨m1,hm1⟩:∃b,decide (gz r∈([32,34,35,60,62,63,94,96,123,125]:List UInt8))=b:=⟨_,rfl⟩;obtain ⟨m2,hm2⟩:∃b,decide (gz r∈([47,58,59,61,64,91,92,93,124]:List UInt8))=b:=⟨_,rfl⟩;obtain ⟨m3,hm3⟩:∃b,decide (gz r∈([36,37,38,43,44]:List UInt8))=b:=⟨_,rfl⟩;have HG:Hid (decide (gz r∈fY 5)=(m1||m2)):=Lib.hid (by
   rw [<-hm1]
   try rw [<-hm2]
   try rw [<-hm3]
   rw [Bool.eq_iff_iff];simp only [Bool.or_eq_true,decide_eq_true_eq];unfold fY;simp only [show ¬((5:Int)=1)from by decide,show ¬((5:Int)=2)from by decide,show ¬((5:Int)=3)from by decide,if_false];simp only [if_true,List.mem_append,show ¬((5:Int)=4)from by decide,show ¬((6:Int)=4)from by decide,show ¬((6:Int)=5)from by decide,if_false];exact Iff.rfl)
  have M1:=Lib.hid hm1;have M2:=Lib.hid hm2;have M3:=Lib.hid hm3;clear hm1 hm2 hm3;cases m1<;>cases m2<;>cases m3
  all_goals
   go_enter Tryz.func54,Tryz.ntmps54
   go_wp2_with (first
    |(go_at_call 98;(with_reducible refine (dH r [32,34,35,60,62,63,94,96,123,125] _ r0 d2 hl1).mono ?_);rintro e w' ⟨rfl,rfl⟩;rw [M1.out])
    |(go_at_call 98;(with_reducible refine (dH r [47,58,59,61,64,91,92,93,124] _ r0 d2 hl2).mono ?_);rintro e w' ⟨rfl,rfl⟩;rw [M2.out])
    |(go_at_call 98;(with_reducible refine (dH r [36,37,38,43,44] _ r0 d2 hl3).mono ?_);rintro e w' ⟨rfl,rfl⟩;rw [M3.out]))
   all_goals (go_ret;exact ⟨cz (HF.out.trans HG.out).symm,by trivial⟩)
 ·have hl1:([32,34,35,60,62,63,94,96,123,125]:List UInt8).length<=1000000:=by decide
  have hl2:([47,58,59,61,64,91,92,93,124]:List UInt8).length<=1000000:=by decide
  have hl3:([36,37,38,43,44]:List UInt8).length<=1000000:=by decide
  obtain ⟨m1,hm1⟩:∃b,decide (gz r∈([32,34,35,60,62,63,94,96,123,125]:List UInt8))=b:=⟨_,rfl⟩;obtain ⟨m2,hm2⟩:∃b,decide (gz r∈([47,58,59,61,64,91,92,93,124]:List UInt8))=b:=⟨_,rfl⟩;obtain ⟨m3,hm3⟩:∃b,decide (gz r∈([36,37,38,43,44]:List UInt8))=b:=⟨_,rfl⟩;have HG:Hid (decide (gz r∈fY 6)=(m1||m2||m3)):=Lib.hid (by
   rw [<-hm1]
   try rw [<-hm2]
   try rw [<-hm3]
   rw [Bool.eq_iff_iff];simp only [Bool.or_eq_true,decide_eq_true_eq];unfold fY;simp only [show ¬((6:Int)=1)from by decide,show ¬((6:Int)=2)from by decide,show ¬((6:Int)=3)from by decide,if_false];simp only [if_true,List.mem_append,show ¬((5:Int)=4)from by decide,show ¬((6:Int)=4)from by decide,show ¬((6:Int)=5)from by decide,if_false];exact Iff.rfl)
  have M1:=Lib.hid hm1;have M2:=Lib.hid hm2;have M3:=Lib.hid hm3;clear hm1 hm2 hm3;cases m1<;>cases m2<;>cases m3
  all_goals
   go_enter Tryz.func54,Tryz.ntmps54
   go_wp2_with (first
    |(go_at_call 98;(with_reducible refine (dH r [32,34,35,60,62,63,94,96,123,125] _ r0 d2 hl1).mono ?_);rintro e w' ⟨rfl,rfl⟩;rw [M1.out])
    |(go_at_call 98;(with_reducible refine (dH r [47,58,59,61,64,91,92,93,124] _ r0 d2 hl2).mono ?_);rintro e w' ⟨rfl,rfl⟩;rw [M2.out])
    |(go_at_call 98;(with_reducible refine (dH r [36,37,38,43,44] _ r0 d2 hl3).mono ?_);rintro e w' ⟨rfl,rfl⟩;rw [M3.out]))
   all_goals (go_ret;exact ⟨cz (HF.out.trans HG.out).symm,by trivial⟩)
end Go.Proofs.YtmfapopclbnlpaaGreatDoor
