package report_test

import (
	"fmt"

	"cresset/api"
	"cresset/report"
)

// Example is what README.md shows.
func Example() {
	signal, mended, e := report.Mend(api.Frame{Check: 131})
	fmt.Println(signal.Owner, mended, e)
	beacon, e := report.Read(signal, 60, "sat-1")
	fmt.Println(report.Print(beacon), e)
	call, at, e := report.Parse("call at 90 by kestrel in 30 30 souls 4 trust 700")
	fmt.Println(call.Souls, at, e)
	left, all, e := report.Doubt([]api.Report{beacon, call})
	fmt.Println(left, all, e)
	// Output:
	// 1 true 0
	// beacon at 60 by sat-1 about b1 in 0 0 1024 0 1024 1024 0 1024 trust 500 0
	// 4 0 0
	// 150000 1000000 0
}
