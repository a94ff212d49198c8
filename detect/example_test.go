package detect_test

import (
	"fmt"

	"cresset/api"
	"cresset/detect"
	"cresset/weight"
)

// Example is what README.md shows.
func Example() {
	rows := []api.Sight{{Sensor: 1, Object: 2, Sea: 3, Width: 800}, {Sensor: 1, Object: 2, Sea: 5, Width: 500}}
	width, e := detect.Width(rows, 1, 2, 0, 4)
	fmt.Println(width, e)
	cover, e := detect.Cover(width, 10000, 3600, 36000000)
	fmt.Println(weight.Text(cover), e)
	curve, e := detect.Halving(2)
	chance, e := detect.Chance(curve, cover)
	fmt.Println(weight.Text(chance), e)
	goal, e := detect.Need(curve, api.Part{Num: "5", Den: "8"})
	fmt.Println(weight.Text(goal), e)
	left, e := detect.Miss(curve, []api.Part{cover, cover, goal})
	fmt.Println(weight.Text(left), e)
	// Output:
	// 500 0
	// 1/2 0
	// 1/4 0
	// 3/2 0
	// 27/128 0
}
