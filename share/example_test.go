package share_test

import (
	"fmt"

	"cresset/api"
	"cresset/share"
)

// Example is what README.md shows.
func Example() {
	a, e := share.New(1)
	b, e := share.New(2)
	first, e := a.Say("raft", "seen", 5, 600, 0)
	second, e := b.Say("raft", "lost", 9, 500, 0)
	fmt.Println(first, second, e == api.OK)
	news, e := a.Since(b.Known())
	fresh, e := b.Take(news)
	seen := b.Known()
	fmt.Println(fresh, seen, b.Show(), e == api.OK)
	back, e := a.Say("", "", 0, 0, 1)
	fresh, e = b.Take([]api.Said{back, first, back})
	fmt.Println(fresh, b.Show(), e == api.OK)
	before, e := b.At(seen)
	fmt.Println(before, e == api.OK)
	when, e := b.When(1)
	both, e := share.Join(a.Known(), seen)
	fmt.Println(b.Arrived(), when, both, e == api.OK)
	// Output:
	// {1 1 raft seen 5 600 0} {2 1 raft lost 9 500 0} true
	// 1 [1 1 0 0 0 0 0 0] [{{1 1 raft seen 5 600 0} 1}] true
	// 1 [{{2 1 raft lost 9 500 0} 0}] true
	// [{{1 1 raft seen 5 600 0} 1}] true
	// 3 [0 1 0 0 0 0 0 0] [2 1 0 0 0 0 0 0] true
}
